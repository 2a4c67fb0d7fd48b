/- What slices.Equal over bytes, sameText, and the document's own same return: whether two byte strings are equal. -/
import Derived.Test.YtnkkhmgplpkjbaaDoorLg
import Derived.Outline
import Derived.Test.YtnkkhmgplpkjbaaDoorLk
import Derived.Stop.BytesEq
import Derived.Laws.StructEq
namespace Go.Proofs.YtnkkhmgplpkjbaaDoor
open Go.RowKit
set_option linter.unusedVariables false
set_option linter.unusedSimpArgs false
set_option maxRecDepth 100000
theorem below_dN {B : Nat} {w w' : World} (h : Below B w w') (k : Nat) : Below B w (w'.drewN k) := ⟨h.os, h.tape, h.output, h.size, h.block⟩
theorem Bt_inj {x y : BitVec 8} : Bt x = Bt y ↔ x = y := by
  unfold Bt
  rw [Int.ofNat_inj, BitVec.toNat_inj]
theorem take_eq_succ {α : Type} (X Y : List α) (d : α) (i : Nat) (hx : i < X.length) (hy : i < Y.length) (h : X.take i = Y.take i) : (X.take (i + 1) = Y.take (i + 1)) ↔ X.getD i d = Y.getD i d := by
  have e1 : X.getD i d = X[i] := by simp [List.getD, hx]
  have e2 : Y.getD i d = Y[i] := by simp [List.getD, hy]
  rw [List.take_succ_eq_append_getElem hx, List.take_succ_eq_append_getElem hy, h, e1, e2]
  constructor
  · intro hh
    have := List.append_cancel_left hh
    simpa using this
  · intro hh
    rw [hh]
theorem ne_at {α : Type} (X Y : List α) (d : α) (i : Nat) (h : X.getD i d ≠ Y.getD i d) : X ≠ Y := fun e => h (by rw [e])
/-- What an equality of two things tells. -/
def EqPost (b : Bool) (w : World) (e : Ending) (w' : World) : Prop := e = .returned (.bool b) ∧ Below w.heap.size w w'
set_option maxHeartbeats 4000000 in
theorem equal_any (v u : Value) (X Y : List (BitVec 8)) (w : World) (h1 : Sl w w.heap.size v X) (h2 : Sl w w.heap.size u Y) : Calls Tryd.prog 95 #[v, u] w (EqPost (decide (X = Y)) w) := by
  obtain ⟨A, c, rfl, hr, hc, hm, hn⟩ := h1
  obtain ⟨A2, c2, rfl, hr2, hc2, hm2, hn2⟩ := h2
  have HR := Lib.hid hr
  have HR2 := Lib.hid hr2
  obtain ⟨lx, hlx⟩ : ∃ n, n = X.length := ⟨_, rfl⟩
  obtain ⟨ly, hly⟩ : ∃ n, n = Y.length := ⟨_, rfl⟩
  have Hlx := Lib.hid hlx
  have Hly := Lib.hid hly
  have hlm : lx ≤ 9223372036854775807 := by omega
  have Hb0 := Lib.hid (Below.refl w.heap.size w)
  rw [← hlx, ← hly]
  clear hr hr2 hc hm hn hc2 hm2 hn2
  by_cases hl : lx = ly
  · have hly2 : ly = Y.length := hly
    clear hly
    subst hl
    clear hlx hly2
    go_enter Tryd.func95, Tryd.ntmps95
    go_wp2_with fail
    go_loopw [13] (fun iv wq => ∃ i : Nat, i ≤ lx ∧ iv = .int .i64 (i : Int) ∧ X.take i = Y.take i ∧ Below w.heap.size w wq) (fun iv _ => lx - (intOf iv).toNat)
    case atStart => exact ⟨0, Nat.zero_le _, rfl, rfl, Hb0.out⟩
    case round =>
      obtain ⟨i, hi, rfl, he, hb⟩ := hrel
      have HE := Lib.hid he
      clear he
      by_cases hlt : i < lx
      · have hlt' : (i : Int) < (lx : Int) := by omega
        obtain ⟨b, o, rfl, hbl, hcl⟩ := HR.out (by rw [← Hlx.out]; omega)
        obtain ⟨b2, o2, rfl, hbl2, hcl2⟩ := HR2.out (by rw [← Hly.out]; omega)
        have hst := take_eq_succ X Y 0 i (by rw [← Hlx.out]; exact hlt) (by rw [← Hly.out]; exact hlt) HE.out
        have hne := ne_at X Y 0 i
        have c0 : wr.cell? ⟨b, o + i, none⟩ = some (.int .u8 (Bt (X.getD i 0))) := by rw [hb.cell (p := ⟨b, o + i, none⟩) hbl]; exact hcl i (by rw [← Hlx.out]; exact hlt)
        have c1 : wr.cell? ⟨b2, o2 + i, none⟩ = some (.int .u8 (Bt (Y.getD i 0))) := by rw [hb.cell (p := ⟨b2, o2 + i, none⟩) hbl2]; exact hcl2 i (by rw [← Hly.out]; exact hlt)
        generalize X.getD i 0 = x at c0 hst hne
        generalize Y.getD i 0 = y at c1 hst hne
        have Hb := Lib.hid hb
        by_cases hxy : x = y
        · have HT := Lib.hid (hst.2 hxy)
          have e1 : (Bt x != Bt y) = false := by rw [hxy]; simp
          clear hst hne hxy hcl hcl2 hbl hbl2 hb
          go_wp2_with fail
          go_quiet (fail)
          go_wp2_with fail
          go_roundw
          case rel => exact ⟨i + 1, by omega, by go_num, HT.out, below_dN Hb.out _⟩
          case measure => simp [intOf]; omega
        · have HT : Hid (decide (X = Y) = false) := show decide (X = Y) = false by simpa using hne hxy
          have e1 : (Bt x != Bt y) = true := by simpa [Bt_inj] using hxy
          clear hst hne hxy hcl hcl2 hbl hbl2 hb
          go_wp2_with fail
          go_quiet (fail)
          go_wp2_with fail
          go_ret
          exact ⟨by rw [HT.out]; rfl, below_dN Hb.out _⟩
      · obtain rfl : i = lx := by omega
        have hlt' : ¬ (i : Int) < (i : Int) := by omega
        have HT : Hid (decide (X = Y) = true) := show decide (X = Y) = true by
          have := HE.out
          rw [List.take_of_length_le (by rw [← Hlx.out]; exact Nat.le_refl _), List.take_of_length_le (by rw [← Hly.out]; exact Nat.le_refl _)] at this
          simpa using this
        go_wp2_with fail
        go_ret
        exact ⟨by rw [HT.out]; rfl, hb⟩
  · have e1 : ((lx : Int) != (ly : Int)) = true := by simp; omega
    have HT : Hid (decide (X = Y) = false) := show decide (X = Y) = false by
      have : X ≠ Y := fun e => hl (by rw [hlx, hly, e])
      simpa using this
    clear hl hlx hly
    go_enter Tryd.func95, Tryd.ntmps95
    go_wp2_with fail
    go_ret
    exact ⟨by rw [HT.out]; rfl, Hb0.out⟩
theorem sameText_any (v u : Value) (X Y : List (BitVec 8)) (w : World) (h1 : Sl w w.heap.size v X) (h2 : Sl w w.heap.size u Y) : Calls Tryd.prog 64 #[v, u] w (EqPost (decide (X = Y)) w) := by
  have K := Lib.hid (equal_any v u X Y w h1 h2)
  clear h1 h2
  go_enter Tryd.func64, Tryd.ntmps64
  go_wp2_with (go_at_call 95; (with_reducible refine K.out.mono ?_); rintro e w2 ⟨rfl, hb⟩; dsimp only)
  go_ret
  exact ⟨rfl, hb⟩

open Go.RowKit
set_option linter.unusedVariables false
set_option linter.unusedSimpArgs false
set_option maxRecDepth 100000
set_option maxHeartbeats 4000000 in
theorem eqf_texts (v u : Value) (xs ys : List (List (BitVec 8))) (w : World) (h1 : Ws w w.heap.size v xs) (h2 : Ws w w.heap.size u ys) :
    Calls Tryd.prog 65 #[v, u, .func (.func 64) #[] #[]] w (EqPost (decide (xs = ys)) w) := by
  obtain ⟨A, c, b, o, rfl, hA, hr⟩ := Row.open h1
  obtain ⟨A2, c2, b2, o2, rfl, hA2, hr2⟩ := Row.open h2
  obtain ⟨_, _, e1, hm1, hm2, _⟩ := h1
  cases e1
  have HR := Lib.hid hr
  have HR2 := Lib.hid hr2
  have HA := Lib.hid hA
  have HA2 := Lib.hid hA2
  obtain ⟨lx, hlx⟩ : ∃ n, n = xs.length := ⟨_, rfl⟩
  obtain ⟨ly, hly⟩ : ∃ n, n = ys.length := ⟨_, rfl⟩
  have Hlx := Lib.hid hlx
  have Hly := Lib.hid hly
  have hlm : lx ≤ 9223372036854775807 := by omega
  have Hb0 := Lib.hid (Below.refl w.heap.size w)
  rw [← hlx, ← hly]
  clear hr hr2 hA hA2 hm1 hm2 h2
  by_cases hl : lx = ly
  · have hly2 : ly = ys.length := hly
    clear hly
    subst hl
    clear hlx hly2
    go_enter Tryd.func65, Tryd.ntmps65
    go_wp2_with fail
    go_loopw [17] (fun iv wq => ∃ i : Nat, i ≤ lx ∧ iv = .int .i64 (i : Int) ∧ xs.take i = ys.take i ∧ Below w.heap.size w wq) (fun iv _ => lx - (intOf iv).toNat)
    case atStart => exact ⟨0, Nat.zero_le _, rfl, rfl, Hb0.out⟩
    case round =>
      obtain ⟨i, hi, rfl, he, hb⟩ := hrel
      have HE := Lib.hid he
      clear he
      by_cases hlt : i < lx
      · have hlt' : (i : Int) < (lx : Int) := by omega
        obtain rfl := HA.out (by rw [← Hlx.out]; omega)
        obtain rfl := HA2.out (by rw [← Hly.out]; omega)
        obtain ⟨hbl, z1, cu, hs⟩ := HR.out i (by rw [← Hlx.out]; exact hlt)
        obtain ⟨hbl2, z2, cu2, hs2⟩ := HR2.out i (by rw [← Hly.out]; exact hlt)
        have hst := take_eq_succ xs ys [] i (by rw [← Hlx.out]; exact hlt) (by rw [← Hly.out]; exact hlt) HE.out
        have hne := ne_at xs ys [] i
        rw [Nat.mul_one] at cu cu2
        have c0 : wr.cell? ⟨b, o + i, none⟩ = some z1 := by rw [hb.cell (p := ⟨b, o + i, none⟩) hbl]; exact cu
        have c1 : wr.cell? ⟨b2, o2 + i, none⟩ = some z2 := by rw [hb.cell (p := ⟨b2, o2 + i, none⟩) hbl2]; exact cu2
        have hs1 := (hs.keep hb (Nat.le_refl _)).up hb.size
        have hs21 := (hs2.keep hb (Nat.le_refl _)).up hb.size
        generalize xs.getD i [] = x at hs hs1 hst hne
        generalize ys.getD i [] = y at hs2 hs21 hst hne
        have Hb := Lib.hid hb
        have KK : Hid (∀ wq, Below wr.heap.size wr wq → Calls Tryd.prog 64 #[z1, z2] wq (EqPost (decide (x = y)) wq)) := fun wq hq => sameText_any z1 z2 x y wq ((hs1.keep hq (Nat.le_refl _)).up hq.size) ((hs21.keep hq (Nat.le_refl _)).up hq.size)
        obtain ⟨Ax, cx, rfl, _⟩ := hs1
        obtain ⟨Ay, cy, rfl, _⟩ := hs21
        have K := KK
        by_cases hxy : x = y
        · have HT := Lib.hid (hst.2 hxy)
          rw [show decide (x = y) = true by simpa using hxy] at K
          clear hst hne hxy hbl hbl2 hb cu cu2 hs hs2
          go_wp2_with (go_at_call 64; (with_reducible refine (K.out _ (Below.refl _ _)).mono ?_); rintro e w2 ⟨rfl, hb2⟩; dsimp only)
          go_roundw
          case rel => exact ⟨i + 1, by omega, by go_num, HT.out, Hb.out.trans (hb2.mono Hb.out.size)⟩
          case measure => simp [intOf]; omega
        · have HT : Hid (decide (xs = ys) = false) := show decide (xs = ys) = false by simpa using hne hxy
          rw [show decide (x = y) = false by simpa using hxy] at K
          clear hst hne hxy hbl hbl2 hb cu cu2 hs hs2
          go_wp2_with (go_at_call 64; (with_reducible refine (K.out _ (Below.refl _ _)).mono ?_); rintro e w2 ⟨rfl, hb2⟩; dsimp only)
          go_ret
          exact ⟨by rw [HT.out]; rfl, Hb.out.trans (hb2.mono Hb.out.size)⟩
      · obtain rfl : i = lx := by omega
        have hlt' : ¬ (i : Int) < (i : Int) := by omega
        have HT : Hid (decide (xs = ys) = true) := show decide (xs = ys) = true by
          have := HE.out
          rw [List.take_of_length_le (by rw [← Hlx.out]; exact Nat.le_refl _), List.take_of_length_le (by rw [← Hly.out]; exact Nat.le_refl _)] at this
          simpa using this
        go_wp2_with fail
        go_ret
        exact ⟨by rw [HT.out]; rfl, hb⟩
  · have e1 : ((lx : Int) != (ly : Int)) = true := by simp; omega
    have HT : Hid (decide (xs = ys) = false) := show decide (xs = ys) = false by
      have : xs ≠ ys := fun e => hl (by rw [hlx, hly, e])
      simpa using this
    clear hl hlx hly
    go_enter Tryd.func65, Tryd.ntmps65
    go_wp2_with fail
    go_ret
    exact ⟨by rw [HT.out]; rfl, Hb0.out⟩

open Go.RowKit
set_option linter.unusedVariables false
set_option linter.unusedSimpArgs false
set_option maxRecDepth 100000
def prevV (X : List (BitVec 8)) (a : Nat) : List Value := vbs X ++ [.int .u32 (a : Int)]
theorem part_tx (X : List (BitVec 8)) (a : Nat) (hX : X.length = 32) (w : World) : (part 38 (prevV X a).toArray 0).run Tryd.prog w = .ok (.agg (vbs X).toArray) w := by
  have h1 : (isAgg 38).run Tryd.prog w = .ok true w := by kernel_rfl
  have h2 : (sizeOf 38).run Tryd.prog w = .ok 32 w := by kernel_rfl
  have hl : (vbs X).length = 32 := by rw [vbs_len, hX]
  simp [part, h1, h2, prevV]
  rw [List.take_append_of_le_length (by omega), List.take_of_length_le (by omega)]
theorem part_ix (X : List (BitVec 8)) (a : Nat) (hX : X.length = 32) (w : World) : (part 22 (prevV X a).toArray 32).run Tryd.prog w = .ok (.int .u32 (a : Int)) w := by
  have h1 : (isAgg 22).run Tryd.prog w = .ok false w := by kernel_rfl
  have hl : (vbs X).length = 32 := by rw [vbs_len, hX]
  simp [part, h1, prevV, hl]
theorem eql57 (X Y : List (BitVec 8)) (a b : Nat) (hX : X.length = 32) (hY : Y.length = 32) (w : World) :
    (binOp .eql 54 (.agg (prevV X a).toArray) (.agg (prevV Y b).toArray)).run Tryd.prog w = .ok (.bool (decide (X = Y) && decide (a = b))) w := by
  have hS : Tryd.prog.underlying 54 = some (.struct (Tryd.prog.fieldsOf 54)) := by kernel_rfl
  have hp : Tryd.prog.stoodInHeld 54 = false := by kernel_rfl
  have px := part_tx X a hX
  have py := part_tx Y b hY
  have qx := part_ix X a hX
  have qy := part_ix Y b hY
  have eX : vbs X = (X.map UInt8.ofBitVec).map Extern.Stop.cell := by simp [vbs, Extern.Stop.cell, Bt]
  have eY : vbs Y = (Y.map UInt8.ofBitVec).map Extern.Stop.cell := by simp [vbs, Extern.Stop.cell, Bt]
  have hb : ∀ w, (Op.equalIn 9999 38 (.agg (vbs X).toArray) (.agg (vbs Y).toArray)).run Tryd.prog w = .ok (decide (X = Y)) w := fun w => by
    have := run_equalIn_bytes (P := Tryd.prog) w 9997 38 5 32 Tryd.underlying38 Tryd.underlying5 (fun _ => by kernel_rfl) (X.map UInt8.ofBitVec) (Y.map UInt8.ofBitVec) (by simpa using hX) (by simpa using hY)
    rw [← eX, ← eY] at this
    rw [this]
    congr 1
    rw [Bool.eq_iff_iff]
    simp only [beq_iff_eq, decide_eq_true_eq]
    constructor
    · intro h
      have := congrArg (List.map UInt8.toBitVec) h
      simpa [List.map_map, Function.comp_def] using this
    · intro h
      rw [h]
  rw [run_eql_struct, show (10000 : Nat) = 9999 + 1 from rfl, run_equalIn_agg w 9999 54 _ _ hS hp]
  simp only [Program.fieldsOf, Tryd.underlying54]
  generalize (prevV X a).toArray = P1 at px qx ⊢
  generalize (prevV Y b).toArray = P2 at py qy ⊢
  have hi : ∀ w, (Op.equalIn 9999 22 (.int .u32 (a : Int)) (.int .u32 (b : Int))).run Tryd.prog w = .ok ((a : Int) == (b : Int)) w := fun w => run_equalIn_int w 9998 22 .u32 .u32 _ _ Tryd.underlying22
  simp only [Op.eqFields, Sem.run_bind, px, py, qx, qy, hb, hi, Result.andThen_ok, Sem.run_ite, Sem.run_pure]
  by_cases h1 : X = Y <;> by_cases h2 : a = b <;> simp [h1, h2] <;> omega
theorem neq57 (X Y : List (BitVec 8)) (a b : Nat) (hX : X.length = 32) (hY : Y.length = 32) (w : World) :
    (binOp .neq 54 (.agg (prevV X a).toArray) (.agg (prevV Y b).toArray)).run Tryd.prog w = .ok (.bool (!(decide (X = Y) && decide (a = b)))) w := by
  have h := eql57 X Y a b hX hY w
  rw [run_eql_struct] at h
  rw [run_neq_struct]
  generalize (Op.equalIn 10000 54 (.agg (prevV X a).toArray) (.agg (prevV Y b).toArray)).run Tryd.prog w = r at h ⊢
  cases r with
  | ok v w' =>
    simp only [Result.andThen_ok] at h ⊢
    cases h
    rfl
  | halt e w' => simp [Result.andThen] at h
theorem inV_prev {x : TIn} {s u : Value} : inV x s u = prevV x.tx x.ix ++ [s, .int .u32 (x.sq : Int), u] := by simp [inV, prevV]
theorem prevV_len {X : List (BitVec 8)} {a : Nat} (h : X.length = 32) : (prevV X a).length = 33 := by simp [prevV, vbs_len, h]
theorem info57 {X : List (BitVec 8)} {a : Nat} (h : X.length = 32) : (Tryd.prog.info? 54).map (·.size) = some (prevV X a).length := by rw [prevV_len h]; kernel_rfl
theorem Blk.prev {w : World} {b T : Nat} {x : TIn} {s u : Value} (h : Blk w b T (inV x s u)) : w.rangeAt b 0 (prevV x.tx x.ix) := fun j v hv => by
  rw [Nat.zero_add]
  refine h.cell ?_
  rw [inV_prev, List.getElem?_append_left (List.getElem?_eq_some_iff.1 hv).1]
  exact hv
end Go.Proofs.YtnkkhmgplpkjbaaDoor
