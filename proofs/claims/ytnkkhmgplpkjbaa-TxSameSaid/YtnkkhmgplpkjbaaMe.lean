/- What tx.sameOut, and slices.EqualFunc over inputs and outputs, return. -/
import Derived.Test.YtnkkhmgplpkjbaaMd
import Derived.Outline
namespace Go.Proofs.Ytnkkhmgplpkjbaa
open Go.RowKit
set_option linter.unusedVariables false
set_option linter.unusedSimpArgs false
set_option maxRecDepth 100000
instance decIn : DecidableEq TIn := fun x y => decidable_of_iff (x.tx = y.tx ∧ x.ix = y.ix ∧ x.sc = y.sc ∧ x.sq = y.sq ∧ x.wt = y.wt) (by
  obtain ⟨a, b, c, d, e⟩ := x
  obtain ⟨a', b', c', d', e'⟩ := y
  simp)
instance decOut : DecidableEq TOut := fun x y => decidable_of_iff (x.vl = y.vl ∧ x.sc = y.sc) (by
  obtain ⟨a, b⟩ := x
  obtain ⟨a', b'⟩ := y
  simp)
instance decTx : DecidableEq TTx := fun x y => decidable_of_iff (x.ver = y.ver ∧ x.ins = y.ins ∧ x.outs = y.outs ∧ x.lock = y.lock) (by
  obtain ⟨a, b, c, d⟩ := x
  obtain ⟨a', b', c', d'⟩ := y
  simp)
theorem in_eq (x y : TIn) : (decide (x.tx = y.tx) && decide (x.ix = y.ix) && decide (x.sq = y.sq) && decide (x.sc = y.sc) && decide (x.wt = y.wt)) = decide (x = y) := by
  obtain ⟨a, b, c, d, e⟩ := x
  obtain ⟨a', b', c', d', e'⟩ := y
  rw [Bool.eq_iff_iff]
  simp
  constructor
  · rintro ⟨⟨⟨⟨h1, h2⟩, h3⟩, h4⟩, h5⟩; exact ⟨h1, h2, h4, h3, h5⟩
  · rintro ⟨h1, h2, h3, h4, h5⟩; exact ⟨⟨⟨⟨h1, h2⟩, h4⟩, h3⟩, h5⟩
theorem out_eq (x y : TOut) : (decide (x.vl = y.vl) && decide (x.sc = y.sc)) = decide (x = y) := by
  obtain ⟨a, b⟩ := x
  obtain ⟨a', b'⟩ := y
  rw [Bool.eq_iff_iff]
  simp
theorem sameIn_eq (x y : TIn) (s u s2 u2 : Value) (w : World) (h1 : InOk w w.heap.size x s u) (h2 : InOk w w.heap.size y s2 u2) :
    Calls Try.prog 31 #[.agg (inV x s u).toArray, .agg (inV y s2 u2).toArray] w (EqPost (decide (x = y)) w) := by
  have := sameIn_any x y s u s2 u2 w h1 h2
  rwa [in_eq] at this
set_option maxHeartbeats 4000000 in
theorem sameOut_eq (x y : TOut) (s s2 : Value) (w : World) (h1 : OutOk w w.heap.size x s) (h2 : OutOk w w.heap.size y s2) :
    Calls Try.prog 33 #[.agg (outV x s).toArray, .agg (outV y s2).toArray] w (EqPost (decide (x = y)) w) := by
  rw [← out_eq]
  obtain ⟨hs, _, _⟩ := h1
  obtain ⟨hs2, _, _⟩ := h2
  have K45 : Hid (∀ wq, Below w.heap.size w wq → Calls Try.prog 45 #[s, s2] wq (EqPost (decide (x.sc = y.sc)) wq)) := fun wq hq => sameText_any s s2 _ _ wq ((hs.keep hq (Nat.le_refl _)).up hq.size) ((hs2.keep hq (Nat.le_refl _)).up hq.size)
  obtain ⟨As, cs, rfl, _⟩ := hs
  obtain ⟨As2, cs2, rfl, _⟩ := hs2
  obtain ⟨b3, hb3⟩ : ∃ b, b = decide (x.sc = y.sc) := ⟨_, rfl⟩
  rw [← hb3] at K45 ⊢
  obtain ⟨l1, hl1⟩ : ∃ n, n = x.sc.length := ⟨_, rfl⟩
  obtain ⟨l2, hl22⟩ : ∃ n, n = y.sc.length := ⟨_, rfl⟩
  rw [← hl1, ← hl22] at K45
  show Calls Try.prog 33 #[.agg #[.int .i64 x.vl, .slice As x.sc.length cs], .agg #[.int .i64 y.vl, .slice As2 y.sc.length cs2]] w _
  rw [← hl1, ← hl22]
  have HB : Hid (Below w.heap.size w ((w.alloc (.cells #[.int .i64 x.vl, .slice As l1 cs] 65)).alloc (.cells #[.int .i64 y.vl, .slice As2 l2 cs2] 65))) := ((Below.refl w.heap.size w).alloc (Nat.le_refl _) _).alloc (by simp) _
  clear hb3 hl1 hl22
  by_cases hv : x.vl = y.vl
  · have e2 : (x.vl == y.vl) = true := by simp [hv]
    have d2 : decide (x.vl = y.vl) = true := by simpa using hv
    rw [d2]
    clear hv d2
    go_enter Try.func33, Try.ntmps33
    go_wp2_with (go_at_call 45; (with_reducible refine (K45.out _ HB.out).mono ?_); rintro e w2 ⟨rfl, hb2⟩; dsimp only)
    go_ret
    exact ⟨by simp, HB.out.trans (hb2.mono HB.out.size)⟩
  · have e2 : (x.vl == y.vl) = false := by simpa using hv
    have d2 : decide (x.vl = y.vl) = false := by simpa using hv
    rw [d2]
    clear hv d2
    go_enter Try.func33, Try.ntmps33
    go_wp2_with fail
    go_ret
    exact ⟨by simp, HB.out⟩
theorem inV_one {w : World} {B : Nat} {x : TIn} {s u : Value} (h : InOk w B x s u) : ∀ v ∈ inV x s u, v.oneCell' = true := by
  obtain ⟨⟨A, c, rfl, _⟩, ⟨A2, c2, rfl, _⟩, _⟩ := h
  intro v hv
  rcases List.mem_append.1 hv with h | h
  · exact vbs_one _ _ h
  · simp at h
    rcases h with rfl | rfl | rfl | rfl <;> rfl
theorem outV_one {w : World} {B : Nat} {y : TOut} {s : Value} (h : OutOk w B y s) : ∀ v ∈ outV y s, v.oneCell' = true := by
  obtain ⟨⟨A, c, rfl, _⟩, _⟩ := h
  intro v hv
  simp [outV] at hv
  rcases hv with rfl | rfl <;> rfl
/-- A block of zeros, then stored into. -/
theorem laid_new {w : World} {T n : Nat} {Z C : List Value} (hZ : Z.length = n) (hC : C.length = n) : Blk ((w.alloc (.cells Z.toArray T)).setCells w.heap.size 0 C) w.heap.size T C ∧ Below w.heap.size w ((w.alloc (.cells Z.toArray T)).setCells w.heap.size 0 C) := by
  have hb := Blk.new w T Z.toArray
  rw [List.toList_toArray] at hb
  exact ⟨hb.setCells C (by omega), below_setCells (Nat.le_refl _) _ _ _ ((Below.refl _ _).alloc (Nat.le_refl _) _)⟩
def Z36 : List Value := inV ⟨Z32, 0, [], 0, []⟩ (.slice none 0 0) (.slice none 0 0)
def Z2 : List Value := [.int .i64 0, .slice none 0 0]
theorem zero60 (w : World) : (zeroValue 60).run Try.prog w = .ok (.agg Z36.toArray) w := by kernel_rfl
theorem zero65 (w : World) : (zeroValue 65).run Try.prog w = .ok (.agg Z2.toArray) w := by kernel_rfl
theorem there_new {w : World} {T n : Nat} {Z C : List Value} (hZ : Z.length = n) (hC : C.length = n) : (w.alloc (.cells Z.toArray T)).there w.heap.size 0 C.toArray.size := by
  have hb := Blk.new w T Z.toArray
  rw [List.toList_toArray] at hb
  have h2 : C.toArray.size = Z.length := by rw [List.size_toArray]; omega
  rw [h2]
  exact hb.there
set_option maxHeartbeats 4000000 in
theorem eqf_ins (v u : Value) (xs ys : List TIn) (w : World) (h1 : Is w w.heap.size v xs) (h2 : Is w w.heap.size u ys) :
    Calls Try.prog 30 #[v, u, .func (.func 31) #[] #[]] w (EqPost (decide (xs = ys)) w) := by
  obtain ⟨A, c, b, o, rfl, hA, hr⟩ := Row.open h1
  obtain ⟨A2, c2, b2, o2, rfl, hA2, hr2⟩ := Row.open h2
  obtain ⟨_, _, e1, hm1, hm2, _⟩ := h1
  cases e1
  have HR := Lib.hid hr
  have HR2 := Lib.hid hr2
  have HA := Lib.hid hA
  have HA2 := Lib.hid hA2
  obtain ⟨lx, hlx⟩ : ∃ n, n = xs.length := ⟨_, rfl⟩
  obtain ⟨ly, hly⟩ : ∃ n, n = ys.length := ⟨_, rfl⟩
  have Hlx := Lib.hid hlx
  have Hly := Lib.hid hly
  have hlm : lx ≤ 9223372036854775807 := by omega
  have Hb0 := Lib.hid (Below.refl w.heap.size w)
  rw [← hlx, ← hly]
  clear hr hr2 hA hA2 hm1 hm2 h2
  by_cases hl : lx = ly
  · have hly2 : ly = ys.length := hly
    clear hly
    subst hl
    clear hlx hly2
    go_enter Try.func30, Try.ntmps30
    go_wp2_with fail
    go_loopw [17] (fun iv wq => ∃ i : Nat, i ≤ lx ∧ iv = .int .i64 (i : Int) ∧ xs.take i = ys.take i ∧ Below w.heap.size w wq) (fun iv _ => lx - (intOf iv).toNat)
    case atStart => exact ⟨0, Nat.zero_le _, rfl, rfl, Hb0.out⟩
    case round =>
      obtain ⟨i, hi, rfl, he, hb⟩ := hrel
      have HE := Lib.hid he
      clear he
      by_cases hlt : i < lx
      · have hlt' : (i : Int) < (lx : Int) := by omega
        obtain rfl := HA.out (by rw [← Hlx.out]; omega)
        obtain rfl := HA2.out (by rw [← Hly.out]; omega)
        obtain ⟨hbl, s1, u1, cu, hs⟩ := HR.out i (by rw [← Hlx.out]; exact hlt)
        obtain ⟨hbl2, s2, u2, cu2, hs2⟩ := HR2.out i (by rw [← Hly.out]; exact hlt)
        have hst := take_eq_succ xs ys In0 i (by rw [← Hlx.out]; exact hlt) (by rw [← Hly.out]; exact hlt) HE.out
        have hne := ne_at xs ys In0 i
        have hs1 := (hs.keep hb (Nat.le_refl _)).up hb.size
        have hs21 := (hs2.keep hb (Nat.le_refl _)).up hb.size
        have r1 := range_keep cu hb hbl
        have r2 := range_keep cu2 hb hbl2
        have KK : Hid (∀ wq, Below wr.heap.size wr wq → Calls Try.prog 31 #[.agg (inV (xs.getD i In0) s1 u1).toArray, .agg (inV (ys.getD i In0) s2 u2).toArray] wq (EqPost (decide (xs.getD i In0 = ys.getD i In0)) wq)) := fun wq hq => sameIn_eq _ _ s1 u1 s2 u2 wq ((hs1.keep hq (Nat.le_refl _)).up hq.size) ((hs21.keep hq (Nat.le_refl _)).up hq.size)
        have o1 := inV_one hs1
        have o2' := inV_one hs21
        have n1 : (inV (xs.getD i In0) s1 u1).length = 36 := inV_len hs1.2.2.1
        have n2 : (inV (ys.getD i In0) s2 u2).length = 36 := inV_len hs21.2.2.1
        obtain ⟨C, hC⟩ : ∃ C, C = inV (xs.getD i In0) s1 u1 := ⟨_, rfl⟩
        obtain ⟨D, hD⟩ : ∃ D, D = inV (ys.getD i In0) s2 u2 := ⟨_, rfl⟩
        rw [← hC] at r1 KK o1 n1
        rw [← hD] at r2 KK o2' n2
        have R1 := Lib.hid r1
        have R2 : Hid (∀ wq, Below wr.heap.size wr wq → wq.rangeAt b2 (o2 + i * 36) D) := fun wq hq => range_keep r2 hq (Nat.lt_of_lt_of_le hbl2 hb.size)
        have O1 := Lib.hid o1
        have O2 := Lib.hid o2'
        have N1 := Lib.hid n1
        have N2 := Lib.hid n2
        have IC : Hid ((Try.prog.info? 60).map (·.size) = some C.length) := show _ = _ by rw [n1]; kernel_rfl
        have ID : Hid ((Try.prog.info? 60).map (·.size) = some D.length) := show _ = _ by rw [n2]; kernel_rfl
        have hz := zero60
        have HZl : Hid (Z36.length = 36) := show Z36.length = 36 by rfl
        clear hC hD r1 r2 o1 o2' n1 n2 hs1 hs21
        generalize xs.getD i In0 = x at KK hst hne cu hs
        generalize ys.getD i In0 = y at KK hst hne cu2 hs2
        have Hb := Lib.hid hb
        have K := KK
        by_cases hxy : x = y
        · have HT := Lib.hid (hst.2 hxy)
          rw [show decide (x = y) = true by simpa using hxy] at K
          clear hst hne hxy hbl hbl2 hb cu cu2 hs hs2
          go_upto_region 6 with (first
            | (with_reducible refine wpList_load_mid rfl 60 (.tmp 20) rfl b (o + i * 36) rfl C _ R1.out Try.underlying60 rfl IC.out ?_)
            | (with_reducible refine wpList_store_mid rfl 60 (.tmp 8) (.tmp 21) rfl wr.heap.size 0 C.toArray rfl rfl (there_new (Z := Z36) HZl.out N1.out) (info_arr IC.out) (all_oneCell_toArray O1.out) ?_))
          obtain ⟨hBC, hbC⟩ := laid_new (w := wr) (T := 60) HZl.out N1.out
          have hbC0 := hbC
          generalize (wr.alloc (.cells Z36.toArray 60)).setCells wr.heap.size 0 C = w6 at hBC hbC ⊢
          generalize hg6 : wr.heap.size = g6 at hBC ⊢
          have R26 := Lib.hid (R2.out w6 hbC)
          have HBC := Lib.hid hBC
          have HbC := Lib.hid hbC
          have Hg6 := Lib.hid hg6
          clear hbC0 hBC hbC hg6
          go_upto_region 7 with (first
            | (with_reducible refine wpList_load_mid rfl 60 (.tmp 24) rfl b2 (o2 + i * 36) rfl D _ R26.out Try.underlying60 rfl ID.out ?_)
            | (with_reducible refine wpList_store_mid rfl 60 (.tmp 9) (.tmp 25) rfl w6.heap.size 0 D.toArray rfl rfl (there_new (Z := Z36) HZl.out N2.out) (info_arr ID.out) (all_oneCell_toArray O2.out) ?_))
          obtain ⟨hBD, hbD⟩ := laid_new (w := w6) (T := 60) HZl.out N2.out
          have hBC7 := HBC.out.below hbD HBC.out.lt
          have Hw7 := Lib.hid (Below.trans HbC.out (hbD.mono HbC.out.size))
          generalize (w6.alloc (.cells Z36.toArray 60)).setCells w6.heap.size 0 D = w7 at hBD hbD hBC7 Hw7 ⊢
          clear hbD
          generalize w6.heap.size = g7 at hBD ⊢
          have RC := Lib.hid hBC7.range
          have RD := Lib.hid hBD.range
          clear hBC7 hBD
          go_wp2_with (first
            | (with_reducible refine wpList_load_mid rfl 60 (.tmp 8) rfl g6 0 rfl C _ RC.out Try.underlying60 rfl IC.out ?_)
            | (with_reducible refine wpList_load_mid rfl 60 (.tmp 9) rfl g7 0 rfl D _ RD.out Try.underlying60 rfl ID.out ?_)
            | (go_at_call 31; (with_reducible refine (K.out _ Hw7.out).mono ?_); rintro e w8 ⟨rfl, hb8⟩; dsimp only))
          go_roundw
          case rel => exact ⟨i + 1, by omega, by go_num, HT.out, Hb.out.trans ((Hw7.out.trans (hb8.mono Hw7.out.size)).mono Hb.out.size)⟩
          case measure => simp [intOf]; omega
        · have HT : Hid (decide (xs = ys) = false) := show decide (xs = ys) = false by simpa using hne hxy
          rw [show decide (x = y) = false by simpa using hxy] at K
          clear hst hne hxy hbl hbl2 hb cu cu2 hs hs2
          go_upto_region 6 with (first
            | (with_reducible refine wpList_load_mid rfl 60 (.tmp 20) rfl b (o + i * 36) rfl C _ R1.out Try.underlying60 rfl IC.out ?_)
            | (with_reducible refine wpList_store_mid rfl 60 (.tmp 8) (.tmp 21) rfl wr.heap.size 0 C.toArray rfl rfl (there_new (Z := Z36) HZl.out N1.out) (info_arr IC.out) (all_oneCell_toArray O1.out) ?_))
          obtain ⟨hBC, hbC⟩ := laid_new (w := wr) (T := 60) HZl.out N1.out
          have hbC0 := hbC
          generalize (wr.alloc (.cells Z36.toArray 60)).setCells wr.heap.size 0 C = w6 at hBC hbC ⊢
          generalize hg6 : wr.heap.size = g6 at hBC ⊢
          have R26 := Lib.hid (R2.out w6 hbC)
          have HBC := Lib.hid hBC
          have HbC := Lib.hid hbC
          have Hg6 := Lib.hid hg6
          clear hbC0 hBC hbC hg6
          go_upto_region 7 with (first
            | (with_reducible refine wpList_load_mid rfl 60 (.tmp 24) rfl b2 (o2 + i * 36) rfl D _ R26.out Try.underlying60 rfl ID.out ?_)
            | (with_reducible refine wpList_store_mid rfl 60 (.tmp 9) (.tmp 25) rfl w6.heap.size 0 D.toArray rfl rfl (there_new (Z := Z36) HZl.out N2.out) (info_arr ID.out) (all_oneCell_toArray O2.out) ?_))
          obtain ⟨hBD, hbD⟩ := laid_new (w := w6) (T := 60) HZl.out N2.out
          have hBC7 := HBC.out.below hbD HBC.out.lt
          have Hw7 := Lib.hid (Below.trans HbC.out (hbD.mono HbC.out.size))
          generalize (w6.alloc (.cells Z36.toArray 60)).setCells w6.heap.size 0 D = w7 at hBD hbD hBC7 Hw7 ⊢
          clear hbD
          generalize w6.heap.size = g7 at hBD ⊢
          have RC := Lib.hid hBC7.range
          have RD := Lib.hid hBD.range
          clear hBC7 hBD
          go_wp2_with (first
            | (with_reducible refine wpList_load_mid rfl 60 (.tmp 8) rfl g6 0 rfl C _ RC.out Try.underlying60 rfl IC.out ?_)
            | (with_reducible refine wpList_load_mid rfl 60 (.tmp 9) rfl g7 0 rfl D _ RD.out Try.underlying60 rfl ID.out ?_)
            | (go_at_call 31; (with_reducible refine (K.out _ Hw7.out).mono ?_); rintro e w8 ⟨rfl, hb8⟩; dsimp only))
          go_ret
          exact ⟨by rw [HT.out]; rfl, Hb.out.trans ((Hw7.out.trans (hb8.mono Hw7.out.size)).mono Hb.out.size)⟩
      · obtain rfl : i = lx := by omega
        have hlt' : ¬ (i : Int) < (i : Int) := by omega
        have HT : Hid (decide (xs = ys) = true) := show decide (xs = ys) = true by
          have := HE.out
          rw [List.take_of_length_le (by rw [← Hlx.out]; exact Nat.le_refl _), List.take_of_length_le (by rw [← Hly.out]; exact Nat.le_refl _)] at this
          simpa using this
        go_wp2_with fail
        go_ret
        exact ⟨by rw [HT.out]; rfl, hb⟩
  · have e1 : ((lx : Int) != (ly : Int)) = true := by simp; omega
    have HT : Hid (decide (xs = ys) = false) := show decide (xs = ys) = false by
      have : xs ≠ ys := fun e => hl (by rw [hlx, hly, e])
      simpa using this
    clear hl hlx hly
    go_enter Try.func30, Try.ntmps30
    go_wp2_with fail
    go_ret
    exact ⟨by rw [HT.out]; rfl, Hb0.out⟩
set_option maxHeartbeats 4000000 in
theorem eqf_outs (v u : Value) (xs ys : List TOut) (w : World) (h1 : Os w w.heap.size v xs) (h2 : Os w w.heap.size u ys) :
    Calls Try.prog 32 #[v, u, .func (.func 33) #[] #[]] w (EqPost (decide (xs = ys)) w) := by
  obtain ⟨A, c, b, o, rfl, hA, hr⟩ := Row.open h1
  obtain ⟨A2, c2, b2, o2, rfl, hA2, hr2⟩ := Row.open h2
  obtain ⟨_, _, e1, hm1, hm2, _⟩ := h1
  cases e1
  have HR := Lib.hid hr
  have HR2 := Lib.hid hr2
  have HA := Lib.hid hA
  have HA2 := Lib.hid hA2
  obtain ⟨lx, hlx⟩ : ∃ n, n = xs.length := ⟨_, rfl⟩
  obtain ⟨ly, hly⟩ : ∃ n, n = ys.length := ⟨_, rfl⟩
  have Hlx := Lib.hid hlx
  have Hly := Lib.hid hly
  have hlm : lx ≤ 9223372036854775807 := by omega
  have Hb0 := Lib.hid (Below.refl w.heap.size w)
  rw [← hlx, ← hly]
  clear hr hr2 hA hA2 hm1 hm2 h2
  by_cases hl : lx = ly
  · have hly2 : ly = ys.length := hly
    clear hly
    subst hl
    clear hlx hly2
    go_enter Try.func32, Try.ntmps32
    go_wp2_with fail
    go_loopw [17] (fun iv wq => ∃ i : Nat, i ≤ lx ∧ iv = .int .i64 (i : Int) ∧ xs.take i = ys.take i ∧ Below w.heap.size w wq) (fun iv _ => lx - (intOf iv).toNat)
    case atStart => exact ⟨0, Nat.zero_le _, rfl, rfl, Hb0.out⟩
    case round =>
      obtain ⟨i, hi, rfl, he, hb⟩ := hrel
      have HE := Lib.hid he
      clear he
      by_cases hlt : i < lx
      · have hlt' : (i : Int) < (lx : Int) := by omega
        obtain rfl := HA.out (by rw [← Hlx.out]; omega)
        obtain rfl := HA2.out (by rw [← Hly.out]; omega)
        obtain ⟨hbl, s1, cu, hs⟩ := HR.out i (by rw [← Hlx.out]; exact hlt)
        obtain ⟨hbl2, s2, cu2, hs2⟩ := HR2.out i (by rw [← Hly.out]; exact hlt)
        have hst := take_eq_succ xs ys Out0 i (by rw [← Hlx.out]; exact hlt) (by rw [← Hly.out]; exact hlt) HE.out
        have hne := ne_at xs ys Out0 i
        have hs1 := (hs.keep hb (Nat.le_refl _)).up hb.size
        have hs21 := (hs2.keep hb (Nat.le_refl _)).up hb.size
        have r1 := range_keep cu hb hbl
        have r2 := range_keep cu2 hb hbl2
        have KK : Hid (∀ wq, Below wr.heap.size wr wq → Calls Try.prog 33 #[.agg (outV (xs.getD i Out0) s1).toArray, .agg (outV (ys.getD i Out0) s2).toArray] wq (EqPost (decide (xs.getD i Out0 = ys.getD i Out0)) wq)) := fun wq hq => sameOut_eq _ _ s1 s2 wq ((hs1.keep hq (Nat.le_refl _)).up hq.size) ((hs21.keep hq (Nat.le_refl _)).up hq.size)
        have o1 := outV_one hs1
        have o2' := outV_one hs21
        have n1 : (outV (xs.getD i Out0) s1).length = 2 := rfl
        have n2 : (outV (ys.getD i Out0) s2).length = 2 := rfl
        obtain ⟨C, hC⟩ : ∃ C, C = outV (xs.getD i Out0) s1 := ⟨_, rfl⟩
        obtain ⟨D, hD⟩ : ∃ D, D = outV (ys.getD i Out0) s2 := ⟨_, rfl⟩
        rw [← hC] at r1 KK o1 n1
        rw [← hD] at r2 KK o2' n2
        have R1 := Lib.hid r1
        have R2 : Hid (∀ wq, Below wr.heap.size wr wq → wq.rangeAt b2 (o2 + i * 2) D) := fun wq hq => range_keep r2 hq (Nat.lt_of_lt_of_le hbl2 hb.size)
        have O1 := Lib.hid o1
        have O2 := Lib.hid o2'
        have N1 := Lib.hid n1
        have N2 := Lib.hid n2
        have IC : Hid ((Try.prog.info? 65).map (·.size) = some C.length) := show _ = _ by rw [n1]; kernel_rfl
        have ID : Hid ((Try.prog.info? 65).map (·.size) = some D.length) := show _ = _ by rw [n2]; kernel_rfl
        have hz := zero65
        have HZl : Hid (Z2.length = 2) := show Z2.length = 2 by rfl
        clear hC hD r1 r2 o1 o2' n1 n2 hs1 hs21
        generalize xs.getD i Out0 = x at KK hst hne cu hs
        generalize ys.getD i Out0 = y at KK hst hne cu2 hs2
        have Hb := Lib.hid hb
        have K := KK
        by_cases hxy : x = y
        · have HT := Lib.hid (hst.2 hxy)
          rw [show decide (x = y) = true by simpa using hxy] at K
          clear hst hne hxy hbl hbl2 hb cu cu2 hs hs2
          go_upto_region 6 with (first
            | (with_reducible refine wpList_load_mid rfl 65 (.tmp 20) rfl b (o + i * 2) rfl C _ R1.out Try.underlying65 rfl IC.out ?_)
            | (with_reducible refine wpList_store_mid rfl 65 (.tmp 8) (.tmp 21) rfl wr.heap.size 0 C.toArray rfl rfl (there_new (Z := Z2) HZl.out N1.out) (info_arr IC.out) (all_oneCell_toArray O1.out) ?_))
          obtain ⟨hBC, hbC⟩ := laid_new (w := wr) (T := 65) HZl.out N1.out
          have hbC0 := hbC
          generalize (wr.alloc (.cells Z2.toArray 65)).setCells wr.heap.size 0 C = w6 at hBC hbC ⊢
          generalize hg6 : wr.heap.size = g6 at hBC ⊢
          have R26 := Lib.hid (R2.out w6 hbC)
          have HBC := Lib.hid hBC
          have HbC := Lib.hid hbC
          have Hg6 := Lib.hid hg6
          clear hbC0 hBC hbC hg6
          go_upto_region 7 with (first
            | (with_reducible refine wpList_load_mid rfl 65 (.tmp 24) rfl b2 (o2 + i * 2) rfl D _ R26.out Try.underlying65 rfl ID.out ?_)
            | (with_reducible refine wpList_store_mid rfl 65 (.tmp 9) (.tmp 25) rfl w6.heap.size 0 D.toArray rfl rfl (there_new (Z := Z2) HZl.out N2.out) (info_arr ID.out) (all_oneCell_toArray O2.out) ?_))
          obtain ⟨hBD, hbD⟩ := laid_new (w := w6) (T := 65) HZl.out N2.out
          have hBC7 := HBC.out.below hbD HBC.out.lt
          have Hw7 := Lib.hid (Below.trans HbC.out (hbD.mono HbC.out.size))
          generalize (w6.alloc (.cells Z2.toArray 65)).setCells w6.heap.size 0 D = w7 at hBD hbD hBC7 Hw7 ⊢
          clear hbD
          generalize w6.heap.size = g7 at hBD ⊢
          have RC := Lib.hid hBC7.range
          have RD := Lib.hid hBD.range
          clear hBC7 hBD
          go_wp2_with (first
            | (with_reducible refine wpList_load_mid rfl 65 (.tmp 8) rfl g6 0 rfl C _ RC.out Try.underlying65 rfl IC.out ?_)
            | (with_reducible refine wpList_load_mid rfl 65 (.tmp 9) rfl g7 0 rfl D _ RD.out Try.underlying65 rfl ID.out ?_)
            | (go_at_call 33; (with_reducible refine (K.out _ Hw7.out).mono ?_); rintro e w8 ⟨rfl, hb8⟩; dsimp only))
          go_roundw
          case rel => exact ⟨i + 1, by omega, by go_num, HT.out, Hb.out.trans ((Hw7.out.trans (hb8.mono Hw7.out.size)).mono Hb.out.size)⟩
          case measure => simp [intOf]; omega
        · have HT : Hid (decide (xs = ys) = false) := show decide (xs = ys) = false by simpa using hne hxy
          rw [show decide (x = y) = false by simpa using hxy] at K
          clear hst hne hxy hbl hbl2 hb cu cu2 hs hs2
          go_upto_region 6 with (first
            | (with_reducible refine wpList_load_mid rfl 65 (.tmp 20) rfl b (o + i * 2) rfl C _ R1.out Try.underlying65 rfl IC.out ?_)
            | (with_reducible refine wpList_store_mid rfl 65 (.tmp 8) (.tmp 21) rfl wr.heap.size 0 C.toArray rfl rfl (there_new (Z := Z2) HZl.out N1.out) (info_arr IC.out) (all_oneCell_toArray O1.out) ?_))
          obtain ⟨hBC, hbC⟩ := laid_new (w := wr) (T := 65) HZl.out N1.out
          have hbC0 := hbC
          generalize (wr.alloc (.cells Z2.toArray 65)).setCells wr.heap.size 0 C = w6 at hBC hbC ⊢
          generalize hg6 : wr.heap.size = g6 at hBC ⊢
          have R26 := Lib.hid (R2.out w6 hbC)
          have HBC := Lib.hid hBC
          have HbC := Lib.hid hbC
          have Hg6 := Lib.hid hg6
          clear hbC0 hBC hbC hg6
          go_upto_region 7 with (first
            | (with_reducible refine wpList_load_mid rfl 65 (.tmp 24) rfl b2 (o2 + i * 2) rfl D _ R26.out Try.underlying65 rfl ID.out ?_)
            | (with_reducible refine wpList_store_mid rfl 65 (.tmp 9) (.tmp 25) rfl w6.heap.size 0 D.toArray rfl rfl (there_new (Z := Z2) HZl.out N2.out) (info_arr ID.out) (all_oneCell_toArray O2.out) ?_))
          obtain ⟨hBD, hbD⟩ := laid_new (w := w6) (T := 65) HZl.out N2.out
          have hBC7 := HBC.out.below hbD HBC.out.lt
          have Hw7 := Lib.hid (Below.trans HbC.out (hbD.mono HbC.out.size))
          generalize (w6.alloc (.cells Z2.toArray 65)).setCells w6.heap.size 0 D = w7 at hBD hbD hBC7 Hw7 ⊢
          clear hbD
          generalize w6.heap.size = g7 at hBD ⊢
          have RC := Lib.hid hBC7.range
          have RD := Lib.hid hBD.range
          clear hBC7 hBD
          go_wp2_with (first
            | (with_reducible refine wpList_load_mid rfl 65 (.tmp 8) rfl g6 0 rfl C _ RC.out Try.underlying65 rfl IC.out ?_)
            | (with_reducible refine wpList_load_mid rfl 65 (.tmp 9) rfl g7 0 rfl D _ RD.out Try.underlying65 rfl ID.out ?_)
            | (go_at_call 33; (with_reducible refine (K.out _ Hw7.out).mono ?_); rintro e w8 ⟨rfl, hb8⟩; dsimp only))
          go_ret
          exact ⟨by rw [HT.out]; rfl, Hb.out.trans ((Hw7.out.trans (hb8.mono Hw7.out.size)).mono Hb.out.size)⟩
      · obtain rfl : i = lx := by omega
        have hlt' : ¬ (i : Int) < (i : Int) := by omega
        have HT : Hid (decide (xs = ys) = true) := show decide (xs = ys) = true by
          have := HE.out
          rw [List.take_of_length_le (by rw [← Hlx.out]; exact Nat.le_refl _), List.take_of_length_le (by rw [← Hly.out]; exact Nat.le_refl _)] at this
          simpa using this
        go_wp2_with fail
        go_ret
        exact ⟨by rw [HT.out]; rfl, hb⟩
  · have e1 : ((lx : Int) != (ly : Int)) = true := by simp; omega
    have HT : Hid (decide (xs = ys) = false) := show decide (xs = ys) = false by
      have : xs ≠ ys := fun e => hl (by rw [hlx, hly, e])
      simpa using this
    clear hl hlx hly
    go_enter Try.func32, Try.ntmps32
    go_wp2_with fail
    go_ret
    exact ⟨by rw [HT.out]; rfl, Hb0.out⟩
end Go.Proofs.Ytnkkhmgplpkjbaa
