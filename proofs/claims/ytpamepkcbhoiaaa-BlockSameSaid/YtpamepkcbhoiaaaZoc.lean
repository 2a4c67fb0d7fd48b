/- What slices.IndexFunc over inputs and outputs returns. What tx.Check and Witnessed return. A captured variable that holds a row of bytes of the call's own, and what an append to it makes of it. What the closures that write an input, an output, a witness return, and what they make of the captured variable. What the closure that writes an output, and the loop over inputs or outputs, return. What the closure that writes a witness, and writtenWitnesses, return. What tx.written returns: the bytes of a transaction. -/
import Derived.Test.YtpamepkcbhoiaaaZoa
import Derived.Test.YtpamepkcbhoiaaaZob
import Derived.Outline
import Derived.Lib.AppendStr
namespace Go.Proofs.Ytpamepkcbhoiaaa
open Go.RowKit
set_option linter.unusedVariables false
set_option linter.unusedSimpArgs false
set_option maxRecDepth 100000
theorem load_in {x : TIn} {s u : Value} (wq : World) (b o : Nat) (h : wq.rangeAt b o (inV x s u)) (h32 : x.tx.length = 32) :
    (Instr.loadAt 69 (.pointer (some ⟨b, o, none⟩))).run Try.prog wq = .ok (.agg (inV x s u).toArray) wq :=
  run_loadAt_mid wq b o 69 _ _ h Try.underlying69 rfl (by rw [inV_len h32]; kernel_rfl)
theorem load_out {y : TOut} {s : Value} (wq : World) (b o : Nat) (h : wq.rangeAt b o (outV y s)) :
    (Instr.loadAt 71 (.pointer (some ⟨b, o, none⟩))).run Try.prog wq = .ok (.agg (outV y s).toArray) wq :=
  run_loadAt_mid wq b o 71 _ _ h Try.underlying71 rfl (by show _ = some 2; kernel_rfl)
set_option maxHeartbeats 4000000 in
theorem index_long (v : Value) (xs : List TIn) (w : World) (h : Is w w.heap.size v xs) :
    Calls Try.prog 88 #[v, .func (.func 77) #[] #[]] w (IxPost (xs.any lngIn) w) := by
  obtain ⟨A, cap, rfl, hl, hm, hr⟩ := h
  have HR := Lib.hid hr
  have hm2 : xs.length ≤ 9223372036854775807 := by omega
  obtain ⟨n, hn⟩ : ∃ n, n = xs.length := ⟨_, rfl⟩
  have Hn := Lib.hid hn
  rw [← hn] at hm2 ⊢
  clear hr hn hl hm
  go_enter Try.func88, Try.ntmps88
  go_wp2_with fail
  go_loopw [8] (fun iv wq => ∃ i : Nat, i ≤ n ∧ iv = .int .i64 (i : Int) ∧ (xs.take i).any lngIn = false ∧ Below w.heap.size w wq) (fun iv _ => n - (intOf iv).toNat)
  case atStart => exact ⟨0, Nat.zero_le _, rfl, rfl, Below.refl _ _⟩
  case round =>
    obtain ⟨i, hi, rfl, ha, hb⟩ := hrel
    have HA := Lib.hid ha
    have HB := Lib.hid hb
    clear ha hb
    by_cases hlt : i < n
    · have hlt' : (i : Int) < (n : Int) := by omega
      obtain ⟨b, o, rfl, hbl, hc⟩ := HR.out (by rw [← Hn.out]; omega)
      obtain ⟨s, u, cu, hs⟩ := hc i (by rw [← Hn.out]; exact hlt)
      have cr := range_keep cu HB.out hbl
      have hok := (hs.keep HB.out (Nat.le_refl _)).up HB.out.size
      have K := Lib.hid (longIn_any _ s u wr hok)
      have HI : Hid ((Try.prog.info? 69).map (·.size) = some (inV (xs.getD i In0) s u).length) := show (Try.prog.info? 69).map (·.size) = some (inV (xs.getD i In0) s u).length by rw [show (inV (xs.getD i In0) s u).length = 36 from inV_len hs.2.2.1]; kernel_rfl
      have hst := any_take_succ xs In0 lngIn i (by rw [← Hn.out]; exact hlt)
      have hat := any_at xs In0 lngIn i (by rw [← Hn.out]; exact hlt)
      rw [HA.out, Bool.false_or] at hst
      obtain ⟨C, hC⟩ : ∃ C, C = inV (xs.getD i In0) s u := ⟨_, rfl⟩
      rw [← hC] at K cr HI
      have HRg := Lib.hid cr
      cases hq : lngIn (xs.getD i In0) with
      | true =>
        have HT := Lib.hid (hat hq)
        rw [hq] at K
        clear hst hat hq cu hs hc cr hok hC
        go_wp2_with (first | (go_at_call 77; (with_reducible refine K.out.mono ?_); rintro e w2 ⟨rfl, hb2⟩; dsimp only) | (with_reducible refine wpList_load_mid rfl 69 (.tmp 14) rfl b (o + i * 36) rfl C _ HRg.out Try.underlying69 rfl HI.out ?_))
        go_ret
        exact ⟨_, by omega, by omega, rfl, by rw [HT.out]; simp, HB.out.trans (hb2.mono HB.out.size)⟩
      | false =>
        rw [hq] at hst K
        have HT := Lib.hid hst
        clear hst hat hq cu hs hc cr hok hC
        go_wp2_with (first | (go_at_call 77; (with_reducible refine K.out.mono ?_); rintro e w2 ⟨rfl, hb2⟩; dsimp only) | (with_reducible refine wpList_load_mid rfl 69 (.tmp 14) rfl b (o + i * 36) rfl C _ HRg.out Try.underlying69 rfl HI.out ?_))
        go_roundw
        case rel => exact ⟨i + 1, by omega, by go_num, HT.out, HB.out.trans (hb2.mono HB.out.size)⟩
        case measure => simp [intOf]; omega
    · obtain rfl : i = n := by omega
      have hlt' : ¬ (i : Int) < (i : Int) := by omega
      have e : xs.any lngIn = false := by have := HA.out; rwa [List.take_of_length_le (by rw [Hn.out]; exact Nat.le_refl _)] at this
      have HE := Lib.hid e
      clear e
      go_wp2_with fail
      go_ret
      exact ⟨-1, by omega, by omega, rfl, by rw [HE.out]; rfl, HB.out⟩
set_option maxHeartbeats 4000000 in
theorem index_wit (v : Value) (xs : List TIn) (w : World) (h : Is w w.heap.size v xs) :
    Calls Try.prog 88 #[v, .func (.func 70) #[] #[]] w (IxPost (xs.any wit) w) := by
  obtain ⟨A, cap, rfl, hl, hm, hr⟩ := h
  have HR := Lib.hid hr
  have hm2 : xs.length ≤ 9223372036854775807 := by omega
  obtain ⟨n, hn⟩ : ∃ n, n = xs.length := ⟨_, rfl⟩
  have Hn := Lib.hid hn
  rw [← hn] at hm2 ⊢
  clear hr hn hl hm
  go_enter Try.func88, Try.ntmps88
  go_wp2_with fail
  go_loopw [8] (fun iv wq => ∃ i : Nat, i ≤ n ∧ iv = .int .i64 (i : Int) ∧ (xs.take i).any wit = false ∧ Below w.heap.size w wq) (fun iv _ => n - (intOf iv).toNat)
  case atStart => exact ⟨0, Nat.zero_le _, rfl, rfl, Below.refl _ _⟩
  case round =>
    obtain ⟨i, hi, rfl, ha, hb⟩ := hrel
    have HA := Lib.hid ha
    have HB := Lib.hid hb
    clear ha hb
    by_cases hlt : i < n
    · have hlt' : (i : Int) < (n : Int) := by omega
      obtain ⟨b, o, rfl, hbl, hc⟩ := HR.out (by rw [← Hn.out]; omega)
      obtain ⟨s, u, cu, hs⟩ := hc i (by rw [← Hn.out]; exact hlt)
      have cr := range_keep cu HB.out hbl
      have hok := (hs.keep HB.out (Nat.le_refl _)).up HB.out.size
      have K := Lib.hid (wit_any _ s u wr hok)
      have HI : Hid ((Try.prog.info? 69).map (·.size) = some (inV (xs.getD i In0) s u).length) := show (Try.prog.info? 69).map (·.size) = some (inV (xs.getD i In0) s u).length by rw [show (inV (xs.getD i In0) s u).length = 36 from inV_len hs.2.2.1]; kernel_rfl
      have hst := any_take_succ xs In0 wit i (by rw [← Hn.out]; exact hlt)
      have hat := any_at xs In0 wit i (by rw [← Hn.out]; exact hlt)
      rw [HA.out, Bool.false_or] at hst
      obtain ⟨C, hC⟩ : ∃ C, C = inV (xs.getD i In0) s u := ⟨_, rfl⟩
      rw [← hC] at K cr HI
      have HRg := Lib.hid cr
      cases hq : wit (xs.getD i In0) with
      | true =>
        have HT := Lib.hid (hat hq)
        rw [hq] at K
        clear hst hat hq cu hs hc cr hok hC
        go_wp2_with (first | (go_at_call 70; (with_reducible refine K.out.mono ?_); rintro e w2 ⟨rfl, hb2⟩; dsimp only) | (with_reducible refine wpList_load_mid rfl 69 (.tmp 14) rfl b (o + i * 36) rfl C _ HRg.out Try.underlying69 rfl HI.out ?_))
        go_ret
        exact ⟨_, by omega, by omega, rfl, by rw [HT.out]; simp, HB.out.trans (hb2.mono HB.out.size)⟩
      | false =>
        rw [hq] at hst K
        have HT := Lib.hid hst
        clear hst hat hq cu hs hc cr hok hC
        go_wp2_with (first | (go_at_call 70; (with_reducible refine K.out.mono ?_); rintro e w2 ⟨rfl, hb2⟩; dsimp only) | (with_reducible refine wpList_load_mid rfl 69 (.tmp 14) rfl b (o + i * 36) rfl C _ HRg.out Try.underlying69 rfl HI.out ?_))
        go_roundw
        case rel => exact ⟨i + 1, by omega, by go_num, HT.out, HB.out.trans (hb2.mono HB.out.size)⟩
        case measure => simp [intOf]; omega
    · obtain rfl : i = n := by omega
      have hlt' : ¬ (i : Int) < (i : Int) := by omega
      have e : xs.any wit = false := by have := HA.out; rwa [List.take_of_length_le (by rw [Hn.out]; exact Nat.le_refl _)] at this
      have HE := Lib.hid e
      clear e
      go_wp2_with fail
      go_ret
      exact ⟨-1, by omega, by omega, rfl, by rw [HE.out]; rfl, HB.out⟩
set_option maxHeartbeats 4000000 in
theorem index_out (v : Value) (xs : List TOut) (w : World) (h : Os w w.heap.size v xs) :
    Calls Try.prog 98 #[v, .func (.func 79) #[] #[]] w (IxPost (xs.any lngOut) w) := by
  obtain ⟨A, cap, rfl, hl, hm, hr⟩ := h
  have HR := Lib.hid hr
  have hm2 : xs.length ≤ 9223372036854775807 := by omega
  obtain ⟨n, hn⟩ : ∃ n, n = xs.length := ⟨_, rfl⟩
  have Hn := Lib.hid hn
  rw [← hn] at hm2 ⊢
  clear hr hn hl hm
  go_enter Try.func98, Try.ntmps98
  go_wp2_with fail
  go_loopw [8] (fun iv wq => ∃ i : Nat, i ≤ n ∧ iv = .int .i64 (i : Int) ∧ (xs.take i).any lngOut = false ∧ Below w.heap.size w wq) (fun iv _ => n - (intOf iv).toNat)
  case atStart => exact ⟨0, Nat.zero_le _, rfl, rfl, Below.refl _ _⟩
  case round =>
    obtain ⟨i, hi, rfl, ha, hb⟩ := hrel
    have HA := Lib.hid ha
    have HB := Lib.hid hb
    clear ha hb
    by_cases hlt : i < n
    · have hlt' : (i : Int) < (n : Int) := by omega
      obtain ⟨b, o, rfl, hbl, hc⟩ := HR.out (by rw [← Hn.out]; omega)
      obtain ⟨s, cu, hs⟩ := hc i (by rw [← Hn.out]; exact hlt)
      have cr := range_keep cu HB.out hbl
      have hok := (hs.keep HB.out (Nat.le_refl _)).up HB.out.size
      have K := Lib.hid (longOut_any _ s wr hok)
      have HI : Hid ((Try.prog.info? 71).map (·.size) = some (outV (xs.getD i Out0) s).length) := show (Try.prog.info? 71).map (·.size) = some (outV (xs.getD i Out0) s).length by rw [show (outV (xs.getD i Out0) s).length = 2 from rfl]; kernel_rfl
      have hst := any_take_succ xs Out0 lngOut i (by rw [← Hn.out]; exact hlt)
      have hat := any_at xs Out0 lngOut i (by rw [← Hn.out]; exact hlt)
      rw [HA.out, Bool.false_or] at hst
      obtain ⟨C, hC⟩ : ∃ C, C = outV (xs.getD i Out0) s := ⟨_, rfl⟩
      rw [← hC] at K cr HI
      have HRg := Lib.hid cr
      cases hq : lngOut (xs.getD i Out0) with
      | true =>
        have HT := Lib.hid (hat hq)
        rw [hq] at K
        clear hst hat hq cu hs hc cr hok hC
        go_wp2_with (first | (go_at_call 79; (with_reducible refine K.out.mono ?_); rintro e w2 ⟨rfl, hb2⟩; dsimp only) | (with_reducible refine wpList_load_mid rfl 71 (.tmp 14) rfl b (o + i * 2) rfl C _ HRg.out Try.underlying71 rfl HI.out ?_))
        go_ret
        exact ⟨_, by omega, by omega, rfl, by rw [HT.out]; simp, HB.out.trans (hb2.mono HB.out.size)⟩
      | false =>
        rw [hq] at hst K
        have HT := Lib.hid hst
        clear hst hat hq cu hs hc cr hok hC
        go_wp2_with (first | (go_at_call 79; (with_reducible refine K.out.mono ?_); rintro e w2 ⟨rfl, hb2⟩; dsimp only) | (with_reducible refine wpList_load_mid rfl 71 (.tmp 14) rfl b (o + i * 2) rfl C _ HRg.out Try.underlying71 rfl HI.out ?_))
        go_roundw
        case rel => exact ⟨i + 1, by omega, by go_num, HT.out, HB.out.trans (hb2.mono HB.out.size)⟩
        case measure => simp [intOf]; omega
    · obtain rfl : i = n := by omega
      have hlt' : ¬ (i : Int) < (i : Int) := by omega
      have e : xs.any lngOut = false := by have := HA.out; rwa [List.take_of_length_le (by rw [Hn.out]; exact Nat.le_refl _)] at this
      have HE := Lib.hid e
      clear e
      go_wp2_with fail
      go_ret
      exact ⟨-1, by omega, by omega, rfl, by rw [HE.out]; rfl, HB.out⟩
open Go.RowKit
set_option linter.unusedVariables false
set_option linter.unusedSimpArgs false
set_option maxRecDepth 100000
/-- Why a transaction may not be, or nought. -/
def chk (t : TTx) : Int := if fitE t.ins.length ≠ 0 then fitE t.ins.length else if fitE t.outs.length ≠ 0 then fitE t.outs.length else if t.ins.any lngIn = true ∨ t.outs.any lngOut = true then 3 else 0
def witd (t : TTx) : Bool := t.ins.any wit
def IntPost (c : Int) (w : World) (e : Ending) (w' : World) : Prop := e = .returned (.int .i64 c) ∧ Below w.heap.size w w'
theorem check_at (n1 n2 c1 c2 : Nat) (A1 A2 : Option Addr) (V Lk : Int) (e1 e2 : Int) (b1 b2 : Bool) (w : World) (h1 : fitE n1 = e1) (h2 : fitE n2 = e2)
    (k1 : ∀ wq, Below w.heap.size w wq → Calls Try.prog 69 #[.slice A1 n1 c1, .func (.func 77) #[] #[]] wq (BoolPost b1 wq))
    (k2 : ∀ wq, Below w.heap.size w wq → Calls Try.prog 78 #[.slice A2 n2 c2, .func (.func 79) #[] #[]] wq (BoolPost b2 wq)) :
    Calls Try.prog 67 #[.agg #[.int .u32 V, .slice A1 n1 c1, .slice A2 n2 c2, .int .u32 Lk]] w (IntPost (if e1 ≠ 0 then e1 else if e2 ≠ 0 then e2 else if b1 = true ∨ b2 = true then 3 else 0) w) := by
  have F1 := Lib.hid (fits_any n1)
  have F2 := Lib.hid (fits_any n2)
  rw [h1] at F1
  rw [h2] at F2
  have K1 := Lib.hid k1
  have K2 := Lib.hid k2
  have HB : Hid (Below w.heap.size w (w.alloc (.cells #[.int .u32 V, .slice A1 n1 c1, .slice A2 n2 c2, .int .u32 Lk] 60))) := (Below.refl _ _).alloc (Nat.le_refl _) _
  clear h1 h2 k1 k2
  by_cases d1 : e1 = 0
  · subst d1
    rw [if_neg (by decide)]
    by_cases d2 : e2 = 0
    · subst d2
      rw [if_neg (by decide)]
      cases b1 with
      | true =>
        rw [if_pos (Or.inl rfl)]
        go_enter Try.func67, Try.ntmps67
        go_wp2_with (first
          | (go_at_call 76; (with_reducible refine (F1.out _).mono ?_); rintro e w' ⟨rfl, rfl⟩; dsimp only)
          | (go_at_call 76; (with_reducible refine (F2.out _).mono ?_); rintro e w' ⟨rfl, rfl⟩; dsimp only)
          | (go_at_call 69; (with_reducible refine (K1.out _ HB.out).mono ?_); rintro e w2 ⟨rfl, hb2⟩; dsimp only))
        go_ret
        exact ⟨rfl, HB.out.trans (hb2.mono HB.out.size)⟩
      | false =>
        cases b2 with
        | true =>
          rw [if_pos (Or.inr rfl)]
          go_enter Try.func67, Try.ntmps67
          go_wp2_with (first
            | (go_at_call 76; (with_reducible refine (F1.out _).mono ?_); rintro e w' ⟨rfl, rfl⟩; dsimp only)
            | (go_at_call 76; (with_reducible refine (F2.out _).mono ?_); rintro e w' ⟨rfl, rfl⟩; dsimp only)
            | (go_at_call 69; (with_reducible refine (K1.out _ HB.out).mono ?_); rintro e w2 ⟨rfl, hb2⟩; have HB2 : Hid (Below w.heap.size w w2) := HB.out.trans (hb2.mono HB.out.size); obtain ⟨hc, hf⟩ : w2.cell? ⟨w.heap.size, 2, none⟩ = some (.slice A2 n2 c2) ∧ True := ⟨by rw [hb2.cell (p := ⟨w.heap.size, 2, none⟩) (by simp)]; exact cell_new rfl rfl, trivial⟩; dsimp only)
            | (go_at_call 78; (with_reducible refine (K2.out _ HB2.out).mono ?_); rintro e w3 ⟨rfl, hb3⟩; dsimp only))
          go_ret
          exact ⟨rfl, HB2.out.trans (hb3.mono HB2.out.size)⟩
        | false =>
          rw [if_neg (by simp)]
          go_enter Try.func67, Try.ntmps67
          go_wp2_with (first
            | (go_at_call 76; (with_reducible refine (F1.out _).mono ?_); rintro e w' ⟨rfl, rfl⟩; dsimp only)
            | (go_at_call 76; (with_reducible refine (F2.out _).mono ?_); rintro e w' ⟨rfl, rfl⟩; dsimp only)
            | (go_at_call 69; (with_reducible refine (K1.out _ HB.out).mono ?_); rintro e w2 ⟨rfl, hb2⟩; have HB2 : Hid (Below w.heap.size w w2) := HB.out.trans (hb2.mono HB.out.size); obtain ⟨hc, hf⟩ : w2.cell? ⟨w.heap.size, 2, none⟩ = some (.slice A2 n2 c2) ∧ True := ⟨by rw [hb2.cell (p := ⟨w.heap.size, 2, none⟩) (by simp)]; exact cell_new rfl rfl, trivial⟩; dsimp only)
            | (go_at_call 78; (with_reducible refine (K2.out _ HB2.out).mono ?_); rintro e w3 ⟨rfl, hb3⟩; dsimp only))
          go_ret
          exact ⟨rfl, HB2.out.trans (hb3.mono HB2.out.size)⟩
    · rw [if_pos d2]
      have d3 : (e2 != 0) = true := by simpa using d2
      clear d2
      go_enter Try.func67, Try.ntmps67
      go_wp2_with (first
        | (go_at_call 76; (with_reducible refine (F1.out _).mono ?_); rintro e w' ⟨rfl, rfl⟩; dsimp only)
        | (go_at_call 76; (with_reducible refine (F2.out _).mono ?_); rintro e w' ⟨rfl, rfl⟩; dsimp only))
      go_ret
      exact ⟨rfl, HB.out⟩
  · rw [if_pos d1]
    have d3 : (e1 != 0) = true := by simpa using d1
    clear d1
    go_enter Try.func67, Try.ntmps67
    go_wp2_with (go_at_call 76; (with_reducible refine (F1.out _).mono ?_); rintro e w' ⟨rfl, rfl⟩; dsimp only)
    go_ret
    exact ⟨rfl, HB.out⟩
theorem check_any (t : TTx) (i o : Value) (w : World) (h : TxOk w w.heap.size t i o) : Calls Try.prog 67 #[txV t i o] w (IntPost (chk t) w) := by
  obtain ⟨hi, ho, _, _⟩ := h
  have hi' := hi
  have ho' := ho
  obtain ⟨A1, c1, rfl, _⟩ := hi
  obtain ⟨A2, c2, rfl, _⟩ := ho
  exact check_at t.ins.length t.outs.length c1 c2 A1 A2 _ _ _ _ (t.ins.any lngIn) (t.outs.any lngOut) w rfl rfl
    (fun wq hq => contains50 _ _ _ wq (index_long _ t.ins wq ((hi'.keep hq (Nat.le_refl _)).up hq.size)))
    (fun wq hq => contains71 _ _ _ wq (index_out _ t.outs wq ((ho'.keep hq (Nat.le_refl _)).up hq.size)))
theorem witnessed_at (n1 n2 c1 c2 : Nat) (A1 A2 : Option Addr) (V Lk : Int) (b1 : Bool) (w : World)
    (k1 : ∀ wq, Below w.heap.size w wq → Calls Try.prog 69 #[.slice A1 n1 c1, .func (.func 70) #[] #[]] wq (BoolPost b1 wq)) :
    Calls Try.prog 57 #[.agg #[.int .u32 V, .slice A1 n1 c1, .slice A2 n2 c2, .int .u32 Lk]] w (BoolPost b1 w) := by
  have K1 := Lib.hid k1
  have HB : Hid (Below w.heap.size w (w.alloc (.cells #[.int .u32 V, .slice A1 n1 c1, .slice A2 n2 c2, .int .u32 Lk] 60))) := (Below.refl _ _).alloc (Nat.le_refl _) _
  clear k1
  go_enter Try.func57, Try.ntmps57
  go_wp2_with (go_at_call 69; (with_reducible refine (K1.out _ HB.out).mono ?_); rintro e w2 ⟨rfl, hb2⟩; dsimp only)
  go_ret
  exact ⟨rfl, HB.out.trans (hb2.mono HB.out.size)⟩
theorem witnessed_any (t : TTx) (i o : Value) (w : World) (h : TxOk w w.heap.size t i o) : Calls Try.prog 57 #[txV t i o] w (BoolPost (witd t) w) := by
  obtain ⟨hi, ho, _, _⟩ := h
  have hi' := hi
  obtain ⟨A1, c1, rfl, _⟩ := hi
  obtain ⟨A2, c2, rfl, _⟩ := ho
  exact witnessed_at t.ins.length t.outs.length c1 c2 A1 A2 _ _ _ w
    (fun wq hq => contains50 _ _ _ wq (index_wit _ t.ins wq ((hi'.keep hq (Nat.le_refl _)).up hq.size)))
open Go.RowKit
set_option linter.unusedVariables false
set_option linter.unusedSimpArgs false
set_option maxRecDepth 100000
/-- Nothing that lay there in W0 has changed. -/
def SB (W0 w : World) : Prop := Below W0.heap.size W0 w
theorem SB.size {W0 w : World} (h : SB W0 w) : W0.heap.size ≤ w.heap.size := Below.size h
theorem SB.next {W0 w w' : World} (h : SB W0 w) (hb : Below w.heap.size w w') : SB W0 w' := Below.trans h (hb.mono h.size)
theorem SB.cell {W0 w : World} (h : SB W0 w) {b o : Nat} {v : Value} (hc : W0.cell? ⟨b, o, none⟩ = some v) : w.cell? ⟨b, o, none⟩ = some v := by
  rw [Below.cell h (p := ⟨b, o, none⟩) (World.block_lt_of_cell? _ _ hc)]; exact hc
theorem SB.refl (w : World) : SB w w := Below.refl _ _
/-- The variable in block cb holds the value v, a row of the call's own with the bytes L; below B all is as in w0. -/
structure CapV (w0 : World) (B cb : Nat) (v : Value) (w : World) (L : List (BitVec 8)) : Prop where
  blk : Blk w cb 22 [v]
  ob : OB w B v L
  bel : Below B w0 w
  le : B ≤ cb
  sz : B ≤ w0.heap.size
theorem CapV.drew {w0 : World} {B cb : Nat} {v : Value} {w : World} {L : List (BitVec 8)} (h : CapV w0 B cb v w L) : CapV w0 B cb v w.drew L := ⟨h.blk, h.ob, h.bel.drew, h.le, h.sz⟩
theorem CapV.next {w0 : World} {B cb : Nat} {v : Value} {w w' : World} {L : List (BitVec 8)} (h : CapV w0 B cb v w L) (hb : Below w.heap.size w w') : CapV w0 B cb v w' L :=
  ⟨h.blk.below hb h.blk.lt, OB.below (B' := 0) h.ob hb, h.bel.trans (hb.mono (Nat.le_trans h.sz h.bel.size)), h.le, h.sz⟩
theorem CapV.hB {w0 : World} {B cb : Nat} {v : Value} {w : World} {L : List (BitVec 8)} (h : CapV w0 B cb v w L) : B ≤ w.heap.size := Nat.le_trans h.sz h.bel.size
theorem own_ne {w : World} {B cb g : Nat} {v u : Value} {L : List (BitVec 8)} (h : OB w B v L) (hb : Blk w cb 22 [u]) (hg : v.ownBlock = some g) : g ≠ cb := by
  intro e
  subst e
  rcases h.2 with ⟨rfl, _⟩ | ⟨g', cap, cur, rfl, _, hgg, _⟩
  · simp [Value.ownBlock] at hg
  · have : g' = g := by simpa [Value.ownBlock] using hg
    subst this
    unfold Blk at hb
    rw [hgg] at hb
    simp at hb
theorem OB.aside {w : World} {B cb : Nat} {v u x : Value} {L : List (BitVec 8)} (h : OB w B v L) (hb : Blk w cb 22 [u]) : OB (w.setCell ⟨cb, 0, none⟩ x) B v L := by
  refine ⟨h.1, ?_⟩
  rcases h.2 with hn | ⟨g, cap, cur, rfl, hbb, hgg, rest⟩
  · exact .inl hn
  · refine .inr ⟨g, cap, cur, rfl, hbb, ?_, rest⟩
    rw [Below.heap_setCell _ _ _ _ (fun e => own_ne h hb (g := g) (by simp [Value.ownBlock]) e)]
    exact hgg
/-- Behind an append to the variable's value: what the store asks for, and what it makes. -/
theorem CapV.app {w0 : World} {B cb m : Nat} {v v' : Value} {w w' : World} {L M : List (BitVec 8)} (h : CapV w0 B cb v w L) (h2 : w'.ownsRow B 5 1 v' (L.length + m) (vbs L ++ vbs M)) (h3 : w.grownBy w' v.ownBlock) :
    w'.cell? ⟨cb, 0, none⟩ = some v ∧ w'.frozen? ⟨cb, 0, none⟩ = false ∧ CapV w0 B cb v' (w'.setCell ⟨cb, 0, none⟩ v') (L ++ M) ∧ ∃ A n c, v' = .slice A n c := by
  have hm : m = M.length := by have := h2.1; simp only [List.length_append, vbs_len] at this; omega
  subst hm
  have hA := OB.app h.ob h.bel h.hB (Nat.le_refl _) h2 h3
  have hne : some cb ≠ v.ownBlock := fun e => own_ne h.ob h.blk e.symm rfl
  have hb' := h.blk.grown h3 hne
  refine ⟨hb'.cell rfl, hb'.free 0, ⟨hb'.set 0 v', hA.1.aside hb', hA.2.setCell h.le _, h.le, h.sz⟩, ?_⟩
  rcases hA.1.2 with ⟨rfl, _⟩ | ⟨g, cap, cur, rfl, _⟩ <;> exact ⟨_, _, _, rfl⟩
theorem slice55all (b o : Nat) (w : World) : (Instr.sliceAt 25 (.pointer (some ⟨b, o, none⟩)) none none none).run Try.prog w = .ok (.slice (some ⟨b, o, none⟩) 32 32) w := by
  rw [run_sliceAt_array_all w 25 _ (by kernel_rfl)]
  have hs : (sizeOf (Try.prog.elem 25)).run Try.prog w = .ok 1 w := by kernel_rfl
  have hl : Try.prog.arrayLen 25 = 32 := by kernel_rfl
  rw [hs, hl]
  rfl
theorem slice_form {w : World} {B : Nat} {v : Value} {L : List (BitVec 8)} (h : OB w B v L) : ∃ A c, v = .slice A L.length c ∧ Rd w w.heap.size A L ∧ (A = none → c = 0) := by
  obtain ⟨A, c, e, hr, _, _, hc⟩ := h.rd
  exact ⟨A, c, e, hr, hc⟩
/-- The bytes of an input, of an output, of a witness. -/
def txt (L : List (BitVec 8)) : List (BitVec 8) := form L.length ++ L
def inB (x : TIn) : List (BitVec 8) := x.tx ++ les x.ix 4 ++ txt x.sc ++ les x.sq 4
def u64 (z : Int) : Nat := (z % 18446744073709551616).toNat
def outB (y : TOut) : List (BitVec 8) := les (u64 y.vl) 8 ++ txt y.sc
def witB (x : TIn) : List (BitVec 8) := form x.wt.length ++ (x.wt.map txt).flatten
open Go.RowKit
set_option linter.unusedVariables false
set_option linter.unusedSimpArgs false
set_option maxRecDepth 100000
/-- Behind a closure that appends to the variable: nought is told, and it holds M. -/
def WrPost (w0 : World) (B cb : Nat) (M : List (BitVec 8)) (e : Ending) (w' : World) : Prop := e = .returned (.int .i64 0) ∧ ∃ v, CapV w0 B cb v w' M
theorem nmb_w (k n : Nat) (w : World) (hk : isW k = true) (hn : n < 2 ^ (8 * k)) (hn64 : n < 18446744073709551616) :
    Calls Try.prog 80 #[.int .i64 (k : Int), .int .u64 (n : Int)] w fun e w' => ∃ A c, e = .returned (.slice A k c) ∧ Src22 w' A k (vbs (les n k)) ∧ (A = none → c = 0) ∧ Below w.heap.size w w' :=
  (number_any k n w hk hn hn64).mono fun e w' ⟨v, he, ho, hb⟩ => by
    obtain ⟨A, c, rfl, hr, hc⟩ := slice_form ho
    have hs := src_of_rd hr
    rw [les_len] at hs he
    exact ⟨A, c, he, hs, hc, hb⟩
theorem num4_w (n : Nat) (w : World) (hn : n < 4294967296) :
    Calls Try.prog 80 #[.int .i64 4, .int .u64 (n : Int)] w fun e w' => ∃ A c, e = .returned (.slice A 4 c) ∧ Src22 w' A 4 (vbs (les n 4)) ∧ (A = none → c = 0) ∧ Below w.heap.size w w' := nmb_w 4 n w rfl (by simpa using hn) (by omega)
theorem num8_w (n : Nat) (w : World) (hn : n < 18446744073709551616) :
    Calls Try.prog 80 #[.int .i64 8, .int .u64 (n : Int)] w fun e w' => ∃ A c, e = .returned (.slice A 8 c) ∧ Src22 w' A 8 (vbs (les n 8)) ∧ (A = none → c = 0) ∧ Below w.heap.size w w' := nmb_w 8 n w rfl (by simpa using hn) hn
theorem text_w (T : List (BitVec 8)) (A2 : Option Addr) (n cap2 m : Nat) (w : World) (hn : T.length = n) (hm : (txt T).length = m) (hR2 : Rd w w.heap.size A2 T) (hc2 : A2 = none → cap2 = 0) (hl2 : T.length ≤ 100000) :
    Calls Try.prog 84 #[.slice none 0 0, .slice A2 n cap2] w fun e w' => ∃ A c, e = .returned (.slice A m c) ∧ Src22 w' A m (vbs (txt T)) ∧ (A = none → c = 0) ∧ Below w.heap.size w w' := by
  subst hn
  have h := putText_any none A2 [] T 0 cap2 w.heap.size w (fun h => by simp at h) hR2 (Nat.le_refl _) hc2 (by simp) (by omega)
  rw [List.nil_append] at h
  refine h.mono fun e w' ⟨v, he, ho, hb⟩ => ?_
  obtain ⟨A, c, rfl, hr, hc⟩ := slice_form ho
  have hs := src_of_rd hr
  have e2 : (form T.length ++ T).length = m := hm
  rw [e2] at hs he
  exact ⟨A, c, he, hs, hc, hb⟩
theorem count_w (n m : Nat) (w : World) (hn : n < 9223372036854775808) (hm : (form n).length = m) :
    Calls Try.prog 81 #[.int .i64 (n : Int)] w fun e w' => ∃ A c, e = .returned (.slice A m c) ∧ Src22 w' A m (vbs (form n)) ∧ (A = none → c = 0) ∧ Below w.heap.size w w' :=
  (count_any n w hn).mono fun e w' ⟨v, he, ho, hb⟩ => by
    obtain ⟨A, c, rfl, hr, hc⟩ := slice_form ho
    have hs := src_of_rd hr
    rw [hm] at hs he
    exact ⟨A, c, he, hs, hc, hb⟩
theorem txt_len (T : List (BitVec 8)) : (txt T).length ≤ T.length + 9 := by
  have := wid_le T.length
  simp only [txt, List.length_append, form_len]
  omega
set_option maxHeartbeats 8000000 in
theorem wIn_any (x : TIn) (s u : Value) (g o B cb : Nat) (v : Value) (w0 w : World) (L : List (BitVec 8)) (hg : g < B) (hr : w0.rangeAt g o (inV x s u)) (hok : InOk w0 B x s u) (hC : CapV w0 B cb v w L) (hl : L.length ≤ 1000000) (hsc : x.sc.length ≤ 100000) :
    Calls Try.prog 83 #[.pointer (some ⟨g, o, none⟩), .pointer (some ⟨cb, 0, none⟩)] w (WrPost w0 B cb (L ++ inB x)) := by
  obtain ⟨hs, hu, h32, hix, hsq⟩ := hok
  obtain ⟨e32, e33, e34, e35⟩ := inV_at (x := x) (s := s) (v := u) h32
  have hsl := hs
  obtain ⟨A1, c1, rfl, hrd, _, _, hcn⟩ := hs
  have htx : Rd w0 B (some ⟨g, o, none⟩) x.tx := fun _ => ⟨g, o, rfl, hg, fun j hj => hr j _ (inV_tx hj)⟩
  have c32 := hr 32 _ e32
  have c33 := hr 33 _ e33
  have c34 := hr 34 _ e34
  have HX : Hid (∀ wq, Below B w0 wq → Src22 wq (some ⟨g, o, none⟩) 32 (vbs x.tx) ∧ wq.cell? ⟨g, o + 32, none⟩ = some (.int .u32 (x.ix : Int)) ∧ wq.cell? ⟨g, o + 33, none⟩ = some (.slice A1 x.sc.length c1) ∧ wq.cell? ⟨g, o + 34, none⟩ = some (.int .u32 (x.sq : Int)) ∧ Rd wq B A1 x.sc) := fun wq hq =>
    ⟨by have := src_of_rd (htx.keep hq); rwa [h32] at this, by rw [hq.cell (p := ⟨g, o + 32, none⟩) hg]; exact c32, by rw [hq.cell (p := ⟨g, o + 33, none⟩) hg]; exact c33, by rw [hq.cell (p := ⟨g, o + 34, none⟩) hg]; exact c34, hrd.keep hq⟩
  have hwix : IntKind.u64.wrap (x.ix : Int) = (x.ix : Int) := by rw [IntKind.wrap_u64]; omega
  have hwsq : IntKind.u64.wrap (x.sq : Int) = (x.sq : Int) := by rw [IntKind.wrap_u64]; omega
  have K1 := Lib.hid (fun wq => num4_w x.ix wq hix)
  have K3 := Lib.hid (fun wq => num4_w x.sq wq hsq)
  obtain ⟨m2, hm2⟩ : ∃ m, m = (txt x.sc).length := ⟨_, rfl⟩
  have hm2l : m2 ≤ 100009 := by have := txt_len x.sc; omega
  obtain ⟨n1, hn1⟩ : ∃ n, n = x.sc.length := ⟨_, rfl⟩
  have K2 : Hid (∀ wq, Below B w0 wq → B ≤ wq.heap.size → Calls Try.prog 84 #[.slice none 0 0, .slice A1 n1 c1] wq fun e w' => ∃ A c, e = .returned (.slice A m2 c) ∧ Src22 w' A m2 (vbs (txt x.sc)) ∧ (A = none → c = 0) ∧ Below wq.heap.size wq w') := fun wq hq hB =>
    text_w x.sc A1 n1 c1 m2 wq hn1.symm hm2.symm ((HX.out wq hq).2.2.2.2.up hB) hcn hsc
  rw [← hn1] at HX
  have h55 := slice55all g o
  have Hm2 := Lib.hid hm2
  have Hl32 := Lib.hid h32
  clear hr hu e32 e33 e34 e35 hsl hrd htx c32 c33 c34 hcn hsc hn1 hm2 h32
  obtain ⟨L0, hL0⟩ : ∃ M, M = L ++ inB x := ⟨_, rfl⟩
  rw [← hL0]
  have HL0 := Lib.hid hL0
  clear hL0
  go_enter Try.func83, Try.ntmps83
  go_upto_region 1 with fail
  generalize hWd : w.drew = Wd
  have hCd : CapV w0 B cb v Wd L := by rw [← hWd]; exact hC.drew
  have EC : Hid (∀ wq, SB Wd wq → wq.cell? ⟨cb, 0, none⟩ = some v) := fun wq hq => hq.cell (hCd.blk.cell rfl)
  have HCd := Lib.hid hCd
  clear hCd hC
  refine wp_region_to (z := 6) (SB Wd) (by kernel_rfl) ?_
  rw [hWd]
  have hS : SB Wd Wd := SB.refl Wd
  clear hWd
  refine AnyTo.take (i := 0) (v := v) rfl (by kernel_rfl) (by kernel_rfl) (by kernel_rfl) (by kernel_rfl) (by kernel_rfl) (fun _ _ _ h => h) (Or.inl ⟨by rfl, ?_⟩) hS ?_
  · intro wq hq
    have dq0 := EC.out wq hq
    go_simp
  try simp only [Act.put, List.setIfInBounds_toArray, List.set_cons_zero, List.set_cons_succ, List.getElem_toArray, List.getElem_cons_zero, List.getElem_cons_succ]
  refine AnyTo.take (i := 1) (v := ?_) rfl (by kernel_rfl) (by kernel_rfl) (by kernel_rfl) (by kernel_rfl) (by kernel_rfl) (fun _ _ _ h => h) (Or.inl ⟨by rfl, ?_⟩) hS ?_
  rotate_left
  · (intro wq hq; go_simp; try with_reducible rfl)
  try simp only [Act.put, List.setIfInBounds_toArray, List.set_cons_zero, List.set_cons_succ, List.getElem_toArray, List.getElem_cons_zero, List.getElem_cons_succ]
  refine AnyTo.take (i := 2) (v := ?_) rfl (by kernel_rfl) (by kernel_rfl) (by kernel_rfl) (by kernel_rfl) (by kernel_rfl) (fun _ _ _ h => h) (Or.inl ⟨by rfl, ?_⟩) hS ?_
  rotate_left
  · (intro wq hq; go_simp; try with_reducible rfl)
  try simp only [Act.put, List.setIfInBounds_toArray, List.set_cons_zero, List.set_cons_succ, List.getElem_toArray, List.getElem_cons_zero, List.getElem_cons_succ]
  refine AnyTo.take (i := 3) (v := ?_) rfl (by kernel_rfl) (by kernel_rfl) (by kernel_rfl) (by kernel_rfl) (by kernel_rfl) (fun _ _ _ h => h) (Or.inl ⟨by rfl, ?_⟩) hS ?_
  rotate_left
  · (intro wq hq; go_simp; try with_reducible rfl)
  try simp only [Act.put, List.setIfInBounds_toArray, List.set_cons_zero, List.set_cons_succ, List.getElem_toArray, List.getElem_cons_zero, List.getElem_cons_succ]
  refine AnyTo.take (i := 4) (v := ?_) rfl (by kernel_rfl) (by kernel_rfl) (by kernel_rfl) (by kernel_rfl) (by kernel_rfl) (fun _ _ _ h => h) (Or.inl ⟨by rfl, ?_⟩) hS ?_
  rotate_left
  · (intro wq hq; go_simp; try with_reducible rfl)
  try simp only [Act.put, List.setIfInBounds_toArray, List.set_cons_zero, List.set_cons_succ, List.getElem_toArray, List.getElem_cons_zero, List.getElem_cons_succ]
  refine AnyTo.take (i := 5) (v := .slice (some ⟨g, o, none⟩) 32 32) rfl (by kernel_rfl) (by kernel_rfl) (by kernel_rfl) (by kernel_rfl) (by kernel_rfl) (fun _ _ _ h => h) (Or.inl ⟨by rfl, ?_⟩) hS ?_
  · intro wq hq
    go_simp
  try simp only [Act.put, List.setIfInBounds_toArray, List.set_cons_zero, List.set_cons_succ, List.getElem_toArray, List.getElem_cons_zero, List.getElem_cons_succ]
  have HCa := HCd.out
  refine AnyTo.gone (i := 6) (by kernel_rfl) rfl (by rfl) (fun K hK => ?_)
  refine wp_app (.tmp 4) (.tmp 9) rfl rfl B v L.length (vbs L) rfl HCa.ob (some ⟨g, o, none⟩) 32 32 (vbs x.tx) rfl (HX.out Wd HCa.bel).1 (fun h => by cases h) (by omega) HCa.hB ?_
  intro vp wa h1 h2
  obtain ⟨ca, fa, hC, Axp, lxp, cxp, rfl⟩ := CapV.app HCa h1 h2
  refine hK _ _ (fun h => absurd h (by decide)) ?_
  clear hK K
  try simp only [Act.put, List.setIfInBounds_toArray, List.set_cons_zero, List.set_cons_succ, List.getElem_toArray, List.getElem_cons_zero, List.getElem_cons_succ]
  refine AnyTo.gone (i := 7) (by kernel_rfl) rfl (by rfl) (fun K hK => ?_)
  go_simp
  refine hK _ _ (fun h => absurd h (by decide)) ?_
  clear hK K
  try simp only [Act.put, List.setIfInBounds_toArray, List.set_cons_zero, List.set_cons_succ, List.getElem_toArray, List.getElem_cons_zero, List.getElem_cons_succ]
  refine AnyTo.done (by kernel_rfl) ?_ _
  try dsimp only [Exit.then]
  generalize wa.setCell ⟨cb, 0, none⟩ (.slice Axp lxp cxp) = wp at hC ⊢
  clear ca fa h1 h2 HCa HCd EC
  obtain ⟨L1, hL1⟩ : ∃ M, M = L ++ x.tx := ⟨_, rfl⟩
  have hl1 : L1.length ≤ 1000032 := by rw [hL1, List.length_append, Hl32.out]; omega
  rw [← hL1] at hC
  have HL1 := Lib.hid hL1
  clear hL1 h55
  go_upto_region 2 with fail
  generalize hWd : wp.drew = Wd
  have hCd : CapV w0 B cb (.slice Axp lxp cxp) Wd L1 := by rw [← hWd]; exact hC.drew
  have EC : Hid (∀ wq, SB Wd wq → wq.cell? ⟨cb, 0, none⟩ = some (.slice Axp lxp cxp)) := fun wq hq => hq.cell (hCd.blk.cell rfl)
  have EX : Hid (∀ wq, SB Wd wq → wq.cell? ⟨g, o + 32, none⟩ = some (.int .u32 (x.ix : Int))) := fun wq hq => hq.cell (HX.out Wd hCd.bel).2.1
  have HCd := Lib.hid hCd
  clear hCd hC
  refine wp_region_to (z := 8) (SB Wd) (by kernel_rfl) ?_
  rw [hWd]
  have hS : SB Wd Wd := SB.refl Wd
  clear hWd
  refine AnyTo.take (i := 0) (v := (.slice Axp lxp cxp)) rfl (by kernel_rfl) (by kernel_rfl) (by kernel_rfl) (by kernel_rfl) (by kernel_rfl) (fun _ _ _ h => h) (Or.inl ⟨by rfl, ?_⟩) hS ?_
  · intro wq hq
    have dq0 := EC.out wq hq
    go_simp
  try simp only [Act.put, List.setIfInBounds_toArray, List.set_cons_zero, List.set_cons_succ, List.getElem_toArray, List.getElem_cons_zero, List.getElem_cons_succ]
  refine AnyTo.take (i := 1) (v := ?_) rfl (by kernel_rfl) (by kernel_rfl) (by kernel_rfl) (by kernel_rfl) (by kernel_rfl) (fun _ _ _ h => h) (Or.inl ⟨by rfl, ?_⟩) hS ?_
  rotate_left
  · (intro wq hq; go_simp; try with_reducible rfl)
  try simp only [Act.put, List.setIfInBounds_toArray, List.set_cons_zero, List.set_cons_succ, List.getElem_toArray, List.getElem_cons_zero, List.getElem_cons_succ]
  refine AnyTo.take (i := 2) (v := ?_) rfl (by kernel_rfl) (by kernel_rfl) (by kernel_rfl) (by kernel_rfl) (by kernel_rfl) (fun _ _ _ h => h) (Or.inl ⟨by rfl, ?_⟩) hS ?_
  rotate_left
  · (intro wq hq; go_simp; try with_reducible rfl)
  try simp only [Act.put, List.setIfInBounds_toArray, List.set_cons_zero, List.set_cons_succ, List.getElem_toArray, List.getElem_cons_zero, List.getElem_cons_succ]
  refine AnyTo.take (i := 3) (v := ?_) rfl (by kernel_rfl) (by kernel_rfl) (by kernel_rfl) (by kernel_rfl) (by kernel_rfl) (fun _ _ _ h => h) (Or.inl ⟨by rfl, ?_⟩) hS ?_
  rotate_left
  · (intro wq hq; go_simp; try with_reducible rfl)
  try simp only [Act.put, List.setIfInBounds_toArray, List.set_cons_zero, List.set_cons_succ, List.getElem_toArray, List.getElem_cons_zero, List.getElem_cons_succ]
  refine AnyTo.take (i := 4) (v := ?_) rfl (by kernel_rfl) (by kernel_rfl) (by kernel_rfl) (by kernel_rfl) (by kernel_rfl) (fun _ _ _ h => h) (Or.inl ⟨by rfl, ?_⟩) hS ?_
  rotate_left
  · (intro wq hq; go_simp; try with_reducible rfl)
  try simp only [Act.put, List.setIfInBounds_toArray, List.set_cons_zero, List.set_cons_succ, List.getElem_toArray, List.getElem_cons_zero, List.getElem_cons_succ]
  refine AnyTo.take (i := 5) (v := .int .u32 (x.ix : Int)) rfl (by kernel_rfl) (by kernel_rfl) (by kernel_rfl) (by kernel_rfl) (by kernel_rfl) (fun _ _ _ h => h) (Or.inl ⟨by rfl, ?_⟩) hS ?_
  · intro wq hq
    have dq0 := EX.out wq hq
    go_simp
  try simp only [Act.put, List.setIfInBounds_toArray, List.set_cons_zero, List.set_cons_succ, List.getElem_toArray, List.getElem_cons_zero, List.getElem_cons_succ]
  refine AnyTo.take (i := 6) (v := ?_) rfl (by kernel_rfl) (by kernel_rfl) (by kernel_rfl) (by kernel_rfl) (by kernel_rfl) (fun _ _ _ h => h) (Or.inl ⟨by rfl, ?_⟩) hS ?_
  rotate_left
  · (intro wq hq; go_simp; try with_reducible rfl)
  try simp only [Act.put, List.setIfInBounds_toArray, List.set_cons_zero, List.set_cons_succ, List.getElem_toArray, List.getElem_cons_zero, List.getElem_cons_succ]
  have HCa := HCd.out
  refine AnyTo.gone (i := 7) (by kernel_rfl) rfl (by rfl) (fun K hK => ?_)
  go_simp
  (with_reducible refine (K1.out _).mono ?_)
  rintro e wc ⟨Ac, cc, rfl, hsr, hcc, hbc⟩
  have hS : SB Wd wc := SB.next (SB.refl Wd) hbc
  have HCa := HCa.next hbc
  dsimp only
  refine hK _ _ (fun _ => hS) ?_
  clear hK K
  try simp only [Act.put, List.setIfInBounds_toArray, List.set_cons_zero, List.set_cons_succ, List.getElem_toArray, List.getElem_cons_zero, List.getElem_cons_succ]
  refine AnyTo.gone (i := 8) (by kernel_rfl) rfl (by rfl) (fun K hK => ?_)
  refine wp_app (.tmp 11) (.tmp 18) rfl rfl B (.slice Axp lxp cxp) L1.length (vbs L1) rfl HCa.ob Ac 4 cc (vbs (les x.ix 4)) rfl hsr hcc (by omega) HCa.hB ?_
  intro vq wa h1 h2
  obtain ⟨ca, fa, hC, Axq, lxq, cxq, rfl⟩ := CapV.app HCa h1 h2
  refine hK _ _ (fun h => absurd h (by decide)) ?_
  clear hK K
  try simp only [Act.put, List.setIfInBounds_toArray, List.set_cons_zero, List.set_cons_succ, List.getElem_toArray, List.getElem_cons_zero, List.getElem_cons_succ]
  refine AnyTo.gone (i := 9) (by kernel_rfl) rfl (by rfl) (fun K hK => ?_)
  go_simp
  refine hK _ _ (fun h => absurd h (by decide)) ?_
  clear hK K
  try simp only [Act.put, List.setIfInBounds_toArray, List.set_cons_zero, List.set_cons_succ, List.getElem_toArray, List.getElem_cons_zero, List.getElem_cons_succ]
  refine AnyTo.done (by kernel_rfl) ?_ _
  try dsimp only [Exit.then]
  generalize wa.setCell ⟨cb, 0, none⟩ (.slice Axq lxq cxq) = wq at hC ⊢
  clear ca fa h1 h2 HCa HCd EC
  obtain ⟨L2, hL2⟩ : ∃ M, M = L1 ++ les x.ix 4 := ⟨_, rfl⟩
  have hl2 : L2.length ≤ 1000036 := by rw [hL2, List.length_append, les_len]; omega
  rw [← hL2] at hC
  have HL2 := Lib.hid hL2
  clear hL2 EX hsr hcc hbc hS
  go_upto_region 3 with fail
  generalize hWd : wq.drew = Wd
  have hCd : CapV w0 B cb (.slice Axq lxq cxq) Wd L2 := by rw [← hWd]; exact hC.drew
  have EC : Hid (∀ wq, SB Wd wq → wq.cell? ⟨cb, 0, none⟩ = some (.slice Axq lxq cxq)) := fun wq hq => hq.cell (hCd.blk.cell rfl)
  have EX : Hid (∀ wq, SB Wd wq → wq.cell? ⟨g, o + 33, none⟩ = some (.slice A1 n1 c1)) := fun wq hq => hq.cell (HX.out Wd hCd.bel).2.2.1
  have HCd := Lib.hid hCd
  clear hCd hC
  refine wp_region_to (z := 6) (SB Wd) (by kernel_rfl) ?_
  rw [hWd]
  have hS : SB Wd Wd := SB.refl Wd
  clear hWd
  refine AnyTo.take (i := 0) (v := (.slice Axq lxq cxq)) rfl (by kernel_rfl) (by kernel_rfl) (by kernel_rfl) (by kernel_rfl) (by kernel_rfl) (fun _ _ _ h => h) (Or.inl ⟨by rfl, ?_⟩) hS ?_
  · intro wq hq
    have dq0 := EC.out wq hq
    go_simp
  try simp only [Act.put, List.setIfInBounds_toArray, List.set_cons_zero, List.set_cons_succ, List.getElem_toArray, List.getElem_cons_zero, List.getElem_cons_succ]
  refine AnyTo.take (i := 1) (v := ?_) rfl (by kernel_rfl) (by kernel_rfl) (by kernel_rfl) (by kernel_rfl) (by kernel_rfl) (fun _ _ _ h => h) (Or.inl ⟨by rfl, ?_⟩) hS ?_
  rotate_left
  · (intro wq hq; go_simp; try with_reducible rfl)
  try simp only [Act.put, List.setIfInBounds_toArray, List.set_cons_zero, List.set_cons_succ, List.getElem_toArray, List.getElem_cons_zero, List.getElem_cons_succ]
  refine AnyTo.take (i := 2) (v := ?_) rfl (by kernel_rfl) (by kernel_rfl) (by kernel_rfl) (by kernel_rfl) (by kernel_rfl) (fun _ _ _ h => h) (Or.inl ⟨by rfl, ?_⟩) hS ?_
  rotate_left
  · (intro wq hq; go_simp; try with_reducible rfl)
  try simp only [Act.put, List.setIfInBounds_toArray, List.set_cons_zero, List.set_cons_succ, List.getElem_toArray, List.getElem_cons_zero, List.getElem_cons_succ]
  refine AnyTo.take (i := 3) (v := ?_) rfl (by kernel_rfl) (by kernel_rfl) (by kernel_rfl) (by kernel_rfl) (by kernel_rfl) (fun _ _ _ h => h) (Or.inl ⟨by rfl, ?_⟩) hS ?_
  rotate_left
  · (intro wq hq; go_simp; try with_reducible rfl)
  try simp only [Act.put, List.setIfInBounds_toArray, List.set_cons_zero, List.set_cons_succ, List.getElem_toArray, List.getElem_cons_zero, List.getElem_cons_succ]
  refine AnyTo.take (i := 4) (v := .slice A1 n1 c1) rfl (by kernel_rfl) (by kernel_rfl) (by kernel_rfl) (by kernel_rfl) (by kernel_rfl) (fun _ _ _ h => h) (Or.inl ⟨by rfl, ?_⟩) hS ?_
  · intro wq hq
    have dq0 := EX.out wq hq
    go_simp
  try simp only [Act.put, List.setIfInBounds_toArray, List.set_cons_zero, List.set_cons_succ, List.getElem_toArray, List.getElem_cons_zero, List.getElem_cons_succ]
  have HCa := HCd.out
  refine AnyTo.gone (i := 5) (by kernel_rfl) rfl (by rfl) (fun K hK => ?_)
  go_simp
  (with_reducible refine (K2.out _ HCa.bel HCa.hB).mono ?_)
  rintro e wc ⟨Ac, cc, rfl, hsr, hcc, hbc⟩
  have hS : SB Wd wc := SB.next (SB.refl Wd) hbc
  have HCa := HCa.next hbc
  dsimp only
  refine hK _ _ (fun _ => hS) ?_
  clear hK K
  try simp only [Act.put, List.setIfInBounds_toArray, List.set_cons_zero, List.set_cons_succ, List.getElem_toArray, List.getElem_cons_zero, List.getElem_cons_succ]
  refine AnyTo.gone (i := 6) (by kernel_rfl) rfl (by rfl) (fun K hK => ?_)
  refine wp_app (.tmp 20) (.tmp 25) rfl rfl B (.slice Axq lxq cxq) L2.length (vbs L2) rfl HCa.ob Ac m2 cc (vbs (txt x.sc)) rfl hsr hcc (by omega) HCa.hB ?_
  intro vr wa h1 h2
  obtain ⟨ca, fa, hC, Axr, lxr, cxr, rfl⟩ := CapV.app HCa h1 h2
  refine hK _ _ (fun h => absurd h (by decide)) ?_
  clear hK K
  try simp only [Act.put, List.setIfInBounds_toArray, List.set_cons_zero, List.set_cons_succ, List.getElem_toArray, List.getElem_cons_zero, List.getElem_cons_succ]
  refine AnyTo.gone (i := 7) (by kernel_rfl) rfl (by rfl) (fun K hK => ?_)
  go_simp
  refine hK _ _ (fun h => absurd h (by decide)) ?_
  clear hK K
  try simp only [Act.put, List.setIfInBounds_toArray, List.set_cons_zero, List.set_cons_succ, List.getElem_toArray, List.getElem_cons_zero, List.getElem_cons_succ]
  refine AnyTo.done (by kernel_rfl) ?_ _
  try dsimp only [Exit.then]
  generalize wa.setCell ⟨cb, 0, none⟩ (.slice Axr lxr cxr) = wr at hC ⊢
  clear ca fa h1 h2 HCa HCd EC
  obtain ⟨L3, hL3⟩ : ∃ M, M = L2 ++ txt x.sc := ⟨_, rfl⟩
  have hl3 : L3.length ≤ 1200036 := by rw [hL3, List.length_append, ← Hm2.out]; omega
  rw [← hL3] at hC
  have HL3 := Lib.hid hL3
  clear hL3 EX hsr hcc hbc hS
  go_upto_region 4 with fail
  generalize hWd : wr.drew = Wd
  have hCd : CapV w0 B cb (.slice Axr lxr cxr) Wd L3 := by rw [← hWd]; exact hC.drew
  have EC : Hid (∀ wq, SB Wd wq → wq.cell? ⟨cb, 0, none⟩ = some (.slice Axr lxr cxr)) := fun wq hq => hq.cell (hCd.blk.cell rfl)
  have EX : Hid (∀ wq, SB Wd wq → wq.cell? ⟨g, o + 34, none⟩ = some (.int .u32 (x.sq : Int))) := fun wq hq => hq.cell (HX.out Wd hCd.bel).2.2.2.1
  have HCd := Lib.hid hCd
  clear hCd hC
  refine wp_region_to (z := 7) (SB Wd) (by kernel_rfl) ?_
  rw [hWd]
  have hS : SB Wd Wd := SB.refl Wd
  clear hWd
  refine AnyTo.take (i := 0) (v := (.slice Axr lxr cxr)) rfl (by kernel_rfl) (by kernel_rfl) (by kernel_rfl) (by kernel_rfl) (by kernel_rfl) (fun _ _ _ h => h) (Or.inl ⟨by rfl, ?_⟩) hS ?_
  · intro wq hq
    have dq0 := EC.out wq hq
    go_simp
  try simp only [Act.put, List.setIfInBounds_toArray, List.set_cons_zero, List.set_cons_succ, List.getElem_toArray, List.getElem_cons_zero, List.getElem_cons_succ]
  refine AnyTo.take (i := 1) (v := ?_) rfl (by kernel_rfl) (by kernel_rfl) (by kernel_rfl) (by kernel_rfl) (by kernel_rfl) (fun _ _ _ h => h) (Or.inl ⟨by rfl, ?_⟩) hS ?_
  rotate_left
  · (intro wq hq; go_simp; try with_reducible rfl)
  try simp only [Act.put, List.setIfInBounds_toArray, List.set_cons_zero, List.set_cons_succ, List.getElem_toArray, List.getElem_cons_zero, List.getElem_cons_succ]
  refine AnyTo.take (i := 2) (v := ?_) rfl (by kernel_rfl) (by kernel_rfl) (by kernel_rfl) (by kernel_rfl) (by kernel_rfl) (fun _ _ _ h => h) (Or.inl ⟨by rfl, ?_⟩) hS ?_
  rotate_left
  · (intro wq hq; go_simp; try with_reducible rfl)
  try simp only [Act.put, List.setIfInBounds_toArray, List.set_cons_zero, List.set_cons_succ, List.getElem_toArray, List.getElem_cons_zero, List.getElem_cons_succ]
  refine AnyTo.take (i := 3) (v := ?_) rfl (by kernel_rfl) (by kernel_rfl) (by kernel_rfl) (by kernel_rfl) (by kernel_rfl) (fun _ _ _ h => h) (Or.inl ⟨by rfl, ?_⟩) hS ?_
  rotate_left
  · (intro wq hq; go_simp; try with_reducible rfl)
  try simp only [Act.put, List.setIfInBounds_toArray, List.set_cons_zero, List.set_cons_succ, List.getElem_toArray, List.getElem_cons_zero, List.getElem_cons_succ]
  refine AnyTo.take (i := 4) (v := .int .u32 (x.sq : Int)) rfl (by kernel_rfl) (by kernel_rfl) (by kernel_rfl) (by kernel_rfl) (by kernel_rfl) (fun _ _ _ h => h) (Or.inl ⟨by rfl, ?_⟩) hS ?_
  · intro wq hq
    have dq0 := EX.out wq hq
    go_simp
  try simp only [Act.put, List.setIfInBounds_toArray, List.set_cons_zero, List.set_cons_succ, List.getElem_toArray, List.getElem_cons_zero, List.getElem_cons_succ]
  refine AnyTo.take (i := 5) (v := ?_) rfl (by kernel_rfl) (by kernel_rfl) (by kernel_rfl) (by kernel_rfl) (by kernel_rfl) (fun _ _ _ h => h) (Or.inl ⟨by rfl, ?_⟩) hS ?_
  rotate_left
  · (intro wq hq; go_simp; try with_reducible rfl)
  try simp only [Act.put, List.setIfInBounds_toArray, List.set_cons_zero, List.set_cons_succ, List.getElem_toArray, List.getElem_cons_zero, List.getElem_cons_succ]
  have HCa := HCd.out
  refine AnyTo.gone (i := 6) (by kernel_rfl) rfl (by rfl) (fun K hK => ?_)
  go_simp
  (with_reducible refine (K3.out _).mono ?_)
  rintro e wc ⟨Ac, cc, rfl, hsr, hcc, hbc⟩
  have hS : SB Wd wc := SB.next (SB.refl Wd) hbc
  have HCa := HCa.next hbc
  dsimp only
  refine hK _ _ (fun _ => hS) ?_
  clear hK K
  try simp only [Act.put, List.setIfInBounds_toArray, List.set_cons_zero, List.set_cons_succ, List.getElem_toArray, List.getElem_cons_zero, List.getElem_cons_succ]
  refine AnyTo.gone (i := 7) (by kernel_rfl) rfl (by rfl) (fun K hK => ?_)
  refine wp_app (.tmp 27) (.tmp 33) rfl rfl B (.slice Axr lxr cxr) L3.length (vbs L3) rfl HCa.ob Ac 4 cc (vbs (les x.sq 4)) rfl hsr hcc (by omega) HCa.hB ?_
  intro vt wa h1 h2
  obtain ⟨ca, fa, hC, Axt, lxt, cxt, rfl⟩ := CapV.app HCa h1 h2
  refine hK _ _ (fun h => absurd h (by decide)) ?_
  clear hK K
  try simp only [Act.put, List.setIfInBounds_toArray, List.set_cons_zero, List.set_cons_succ, List.getElem_toArray, List.getElem_cons_zero, List.getElem_cons_succ]
  refine AnyTo.gone (i := 8) (by kernel_rfl) rfl (by rfl) (fun K hK => ?_)
  go_simp
  refine hK _ _ (fun h => absurd h (by decide)) ?_
  clear hK K
  try simp only [Act.put, List.setIfInBounds_toArray, List.set_cons_zero, List.set_cons_succ, List.getElem_toArray, List.getElem_cons_zero, List.getElem_cons_succ]
  refine AnyTo.done (by kernel_rfl) ?_ _
  try dsimp only [Exit.then]
  generalize wa.setCell ⟨cb, 0, none⟩ (.slice Axt lxt cxt) = wt at hC ⊢
  clear ca fa h1 h2 HCa HCd EC
  have HC := Lib.hid hC
  clear hC EX hsr hcc hbc hS
  go_wp2_with fail
  go_ret
  exact ⟨rfl, _, by rw [HL0.out, show L ++ inB x = L3 ++ les x.sq 4 by rw [HL3.out, HL2.out, HL1.out]; simp only [inB, List.append_assoc]]; exact HC.out⟩
open Go.RowKit
set_option linter.unusedVariables false
set_option linter.unusedSimpArgs false
set_option maxRecDepth 100000
theorem u64_lt (z : Int) : u64 z < 18446744073709551616 := by unfold u64; omega
theorem wrap_u64v (z : Int) : IntKind.u64.wrap z = ((u64 z : Nat) : Int) := by rw [IntKind.wrap_u64]; unfold u64; omega
set_option maxHeartbeats 8000000 in
theorem wOut_any (y : TOut) (s : Value) (g o B cb : Nat) (v : Value) (w0 w : World) (L : List (BitVec 8)) (hg : g < B) (hr : w0.rangeAt g o (outV y s)) (hok : OutOk w0 B y s) (hC : CapV w0 B cb v w L) (hl : L.length ≤ 1000000) (hsc : y.sc.length ≤ 100000) :
    Calls Try.prog 86 #[.pointer (some ⟨g, o, none⟩), .pointer (some ⟨cb, 0, none⟩)] w (WrPost w0 B cb (L ++ outB y)) := by
  obtain ⟨hs, hv1, hv2⟩ := hok
  obtain ⟨A1, c1, rfl, hrd, _, _, hcn⟩ := hs
  have c0 := hr 0 _ (rfl : (outV y (.slice A1 y.sc.length c1))[0]? = some (.int .i64 y.vl))
  have c1' := hr 1 _ (rfl : (outV y (.slice A1 y.sc.length c1))[1]? = some (.slice A1 y.sc.length c1))
  have HX : Hid (∀ wq, Below B w0 wq → wq.cell? ⟨g, o, none⟩ = some (.int .i64 y.vl) ∧ wq.cell? ⟨g, o + 1, none⟩ = some (.slice A1 y.sc.length c1) ∧ Rd wq B A1 y.sc) := fun wq hq =>
    ⟨by rw [hq.cell (p := ⟨g, o, none⟩) hg]; exact c0, by rw [hq.cell (p := ⟨g, o + 1, none⟩) hg]; exact c1', hrd.keep hq⟩
  have hwv := wrap_u64v y.vl
  obtain ⟨nv, hnv⟩ : ∃ n, n = u64 y.vl := ⟨_, rfl⟩
  have K1 : Hid (∀ wq, Calls Try.prog 80 #[.int .i64 8, .int .u64 (nv : Int)] wq fun e w' => ∃ A c, e = .returned (.slice A 8 c) ∧ Src22 w' A 8 (vbs (les nv 8)) ∧ (A = none → c = 0) ∧ Below wq.heap.size wq w') := fun wq => num8_w nv wq (by rw [hnv]; exact u64_lt _)
  rw [← hnv] at hwv
  obtain ⟨m2, hm2⟩ : ∃ m, m = (txt y.sc).length := ⟨_, rfl⟩
  have hm2l : m2 ≤ 100009 := by have := txt_len y.sc; omega
  obtain ⟨n1, hn1⟩ : ∃ n, n = y.sc.length := ⟨_, rfl⟩
  have K2 : Hid (∀ wq, Below B w0 wq → B ≤ wq.heap.size → Calls Try.prog 84 #[.slice none 0 0, .slice A1 n1 c1] wq fun e w' => ∃ A c, e = .returned (.slice A m2 c) ∧ Src22 w' A m2 (vbs (txt y.sc)) ∧ (A = none → c = 0) ∧ Below wq.heap.size wq w') := fun wq hq hB =>
    text_w y.sc A1 n1 c1 m2 wq hn1.symm hm2.symm ((HX.out wq hq).2.2.up hB) hcn hsc
  rw [← hn1] at HX
  have Hm2 := Lib.hid hm2
  have Hnv := Lib.hid hnv
  clear hr hrd c0 c1' hcn hsc hn1 hm2 hnv
  obtain ⟨L0, hL0⟩ : ∃ M, M = L ++ outB y := ⟨_, rfl⟩
  rw [← hL0]
  have HL0 := Lib.hid hL0
  clear hL0
  go_enter Try.func86, Try.ntmps86
  go_upto_region 1 with fail
  generalize hWd : w.drew = Wd
  have hCd : CapV w0 B cb v Wd L := by rw [← hWd]; exact hC.drew
  have EC : Hid (∀ wq, SB Wd wq → wq.cell? ⟨cb, 0, none⟩ = some v) := fun wq hq => hq.cell (hCd.blk.cell rfl)
  have EX : Hid (∀ wq, SB Wd wq → wq.cell? ⟨g, o, none⟩ = some (.int .i64 y.vl)) := fun wq hq => hq.cell (HX.out Wd hCd.bel).1
  have HCd := Lib.hid hCd
  clear hCd hC
  refine wp_region_to (z := 7) (SB Wd) (by kernel_rfl) ?_
  rw [hWd]
  have hS : SB Wd Wd := SB.refl Wd
  clear hWd
  refine AnyTo.take (i := 0) (v := v) rfl (by kernel_rfl) (by kernel_rfl) (by kernel_rfl) (by kernel_rfl) (by kernel_rfl) (fun _ _ _ h => h) (Or.inl ⟨by rfl, ?_⟩) hS ?_
  · intro wq hq
    have dq0 := EC.out wq hq
    go_simp
  try simp only [Act.put, List.setIfInBounds_toArray, List.set_cons_zero, List.set_cons_succ, List.getElem_toArray, List.getElem_cons_zero, List.getElem_cons_succ]
  refine AnyTo.take (i := 1) (v := ?_) rfl (by kernel_rfl) (by kernel_rfl) (by kernel_rfl) (by kernel_rfl) (by kernel_rfl) (fun _ _ _ h => h) (Or.inl ⟨by rfl, ?_⟩) hS ?_
  rotate_left
  · (intro wq hq; go_simp; try with_reducible rfl)
  try simp only [Act.put, List.setIfInBounds_toArray, List.set_cons_zero, List.set_cons_succ, List.getElem_toArray, List.getElem_cons_zero, List.getElem_cons_succ]
  refine AnyTo.take (i := 2) (v := ?_) rfl (by kernel_rfl) (by kernel_rfl) (by kernel_rfl) (by kernel_rfl) (by kernel_rfl) (fun _ _ _ h => h) (Or.inl ⟨by rfl, ?_⟩) hS ?_
  rotate_left
  · (intro wq hq; go_simp; try with_reducible rfl)
  try simp only [Act.put, List.setIfInBounds_toArray, List.set_cons_zero, List.set_cons_succ, List.getElem_toArray, List.getElem_cons_zero, List.getElem_cons_succ]
  refine AnyTo.take (i := 3) (v := ?_) rfl (by kernel_rfl) (by kernel_rfl) (by kernel_rfl) (by kernel_rfl) (by kernel_rfl) (fun _ _ _ h => h) (Or.inl ⟨by rfl, ?_⟩) hS ?_
  rotate_left
  · (intro wq hq; go_simp; try with_reducible rfl)
  try simp only [Act.put, List.setIfInBounds_toArray, List.set_cons_zero, List.set_cons_succ, List.getElem_toArray, List.getElem_cons_zero, List.getElem_cons_succ]
  refine AnyTo.take (i := 4) (v := .int .i64 y.vl) rfl (by kernel_rfl) (by kernel_rfl) (by kernel_rfl) (by kernel_rfl) (by kernel_rfl) (fun _ _ _ h => h) (Or.inl ⟨by rfl, ?_⟩) hS ?_
  · intro wq hq
    have dq0 := EX.out wq hq
    go_simp
  try simp only [Act.put, List.setIfInBounds_toArray, List.set_cons_zero, List.set_cons_succ, List.getElem_toArray, List.getElem_cons_zero, List.getElem_cons_succ]
  refine AnyTo.take (i := 5) (v := .int .u64 (nv : Int)) rfl (by kernel_rfl) (by kernel_rfl) (by kernel_rfl) (by kernel_rfl) (by kernel_rfl) (fun _ _ _ h => h) (Or.inl ⟨by rfl, ?_⟩) hS ?_
  · intro wq hq
    go_simp
  try simp only [Act.put, List.setIfInBounds_toArray, List.set_cons_zero, List.set_cons_succ, List.getElem_toArray, List.getElem_cons_zero, List.getElem_cons_succ]
  have HCa := HCd.out
  refine AnyTo.gone (i := 6) (by kernel_rfl) rfl (by rfl) (fun K hK => ?_)
  go_simp
  (with_reducible refine (K1.out _).mono ?_)
  rintro e wc ⟨Ac, cc, rfl, hsr, hcc, hbc⟩
  have hS : SB Wd wc := SB.next (SB.refl Wd) hbc
  have HCa := HCa.next hbc
  dsimp only
  refine hK _ _ (fun _ => hS) ?_
  clear hK K
  try simp only [Act.put, List.setIfInBounds_toArray, List.set_cons_zero, List.set_cons_succ, List.getElem_toArray, List.getElem_cons_zero, List.getElem_cons_succ]
  refine AnyTo.gone (i := 7) (by kernel_rfl) rfl (by rfl) (fun K hK => ?_)
  refine wp_app (.tmp 4) (.tmp 10) rfl rfl B v L.length (vbs L) rfl HCa.ob Ac 8 cc (vbs (les nv 8)) rfl hsr hcc (by omega) HCa.hB ?_
  intro vp wa h1 h2
  obtain ⟨ca, fa, hC, Axp, lxp, cxp, rfl⟩ := CapV.app HCa h1 h2
  refine hK _ _ (fun h => absurd h (by decide)) ?_
  clear hK K
  try simp only [Act.put, List.setIfInBounds_toArray, List.set_cons_zero, List.set_cons_succ, List.getElem_toArray, List.getElem_cons_zero, List.getElem_cons_succ]
  refine AnyTo.gone (i := 8) (by kernel_rfl) rfl (by rfl) (fun K hK => ?_)
  go_simp
  refine hK _ _ (fun h => absurd h (by decide)) ?_
  clear hK K
  try simp only [Act.put, List.setIfInBounds_toArray, List.set_cons_zero, List.set_cons_succ, List.getElem_toArray, List.getElem_cons_zero, List.getElem_cons_succ]
  refine AnyTo.done (by kernel_rfl) ?_ _
  try dsimp only [Exit.then]
  generalize wa.setCell ⟨cb, 0, none⟩ (.slice Axp lxp cxp) = wp at hC ⊢
  clear ca fa h1 h2 HCa HCd EC
  obtain ⟨L1, hL1⟩ : ∃ M, M = L ++ les nv 8 := ⟨_, rfl⟩
  have hl1 : L1.length ≤ 1000036 := by rw [hL1, List.length_append, les_len]; omega
  rw [← hL1] at hC
  have HL1 := Lib.hid hL1
  clear hL1 EX hsr hcc hbc hS
  go_upto_region 2 with fail
  generalize hWd : wp.drew = Wd
  have hCd : CapV w0 B cb (.slice Axp lxp cxp) Wd L1 := by rw [← hWd]; exact hC.drew
  have EC : Hid (∀ wq, SB Wd wq → wq.cell? ⟨cb, 0, none⟩ = some (.slice Axp lxp cxp)) := fun wq hq => hq.cell (hCd.blk.cell rfl)
  have EX : Hid (∀ wq, SB Wd wq → wq.cell? ⟨g, o + 1, none⟩ = some (.slice A1 n1 c1)) := fun wq hq => hq.cell (HX.out Wd hCd.bel).2.1
  have HCd := Lib.hid hCd
  clear hCd hC
  refine wp_region_to (z := 6) (SB Wd) (by kernel_rfl) ?_
  rw [hWd]
  have hS : SB Wd Wd := SB.refl Wd
  clear hWd
  refine AnyTo.take (i := 0) (v := (.slice Axp lxp cxp)) rfl (by kernel_rfl) (by kernel_rfl) (by kernel_rfl) (by kernel_rfl) (by kernel_rfl) (fun _ _ _ h => h) (Or.inl ⟨by rfl, ?_⟩) hS ?_
  · intro wq hq
    have dq0 := EC.out wq hq
    go_simp
  try simp only [Act.put, List.setIfInBounds_toArray, List.set_cons_zero, List.set_cons_succ, List.getElem_toArray, List.getElem_cons_zero, List.getElem_cons_succ]
  refine AnyTo.take (i := 1) (v := ?_) rfl (by kernel_rfl) (by kernel_rfl) (by kernel_rfl) (by kernel_rfl) (by kernel_rfl) (fun _ _ _ h => h) (Or.inl ⟨by rfl, ?_⟩) hS ?_
  rotate_left
  · (intro wq hq; go_simp; try with_reducible rfl)
  try simp only [Act.put, List.setIfInBounds_toArray, List.set_cons_zero, List.set_cons_succ, List.getElem_toArray, List.getElem_cons_zero, List.getElem_cons_succ]
  refine AnyTo.take (i := 2) (v := ?_) rfl (by kernel_rfl) (by kernel_rfl) (by kernel_rfl) (by kernel_rfl) (by kernel_rfl) (fun _ _ _ h => h) (Or.inl ⟨by rfl, ?_⟩) hS ?_
  rotate_left
  · (intro wq hq; go_simp; try with_reducible rfl)
  try simp only [Act.put, List.setIfInBounds_toArray, List.set_cons_zero, List.set_cons_succ, List.getElem_toArray, List.getElem_cons_zero, List.getElem_cons_succ]
  refine AnyTo.take (i := 3) (v := ?_) rfl (by kernel_rfl) (by kernel_rfl) (by kernel_rfl) (by kernel_rfl) (by kernel_rfl) (fun _ _ _ h => h) (Or.inl ⟨by rfl, ?_⟩) hS ?_
  rotate_left
  · (intro wq hq; go_simp; try with_reducible rfl)
  try simp only [Act.put, List.setIfInBounds_toArray, List.set_cons_zero, List.set_cons_succ, List.getElem_toArray, List.getElem_cons_zero, List.getElem_cons_succ]
  refine AnyTo.take (i := 4) (v := .slice A1 n1 c1) rfl (by kernel_rfl) (by kernel_rfl) (by kernel_rfl) (by kernel_rfl) (by kernel_rfl) (fun _ _ _ h => h) (Or.inl ⟨by rfl, ?_⟩) hS ?_
  · intro wq hq
    have dq0 := EX.out wq hq
    go_simp
  try simp only [Act.put, List.setIfInBounds_toArray, List.set_cons_zero, List.set_cons_succ, List.getElem_toArray, List.getElem_cons_zero, List.getElem_cons_succ]
  have HCa := HCd.out
  refine AnyTo.gone (i := 5) (by kernel_rfl) rfl (by rfl) (fun K hK => ?_)
  go_simp
  (with_reducible refine (K2.out _ HCa.bel HCa.hB).mono ?_)
  rintro e wc ⟨Ac, cc, rfl, hsr, hcc, hbc⟩
  have hS : SB Wd wc := SB.next (SB.refl Wd) hbc
  have HCa := HCa.next hbc
  dsimp only
  refine hK _ _ (fun _ => hS) ?_
  clear hK K
  try simp only [Act.put, List.setIfInBounds_toArray, List.set_cons_zero, List.set_cons_succ, List.getElem_toArray, List.getElem_cons_zero, List.getElem_cons_succ]
  refine AnyTo.gone (i := 6) (by kernel_rfl) rfl (by rfl) (fun K hK => ?_)
  refine wp_app (.tmp 12) (.tmp 17) rfl rfl B (.slice Axp lxp cxp) L1.length (vbs L1) rfl HCa.ob Ac m2 cc (vbs (txt y.sc)) rfl hsr hcc (by omega) HCa.hB ?_
  intro vr wa h1 h2
  obtain ⟨ca, fa, hC, Axr, lxr, cxr, rfl⟩ := CapV.app HCa h1 h2
  refine hK _ _ (fun h => absurd h (by decide)) ?_
  clear hK K
  try simp only [Act.put, List.setIfInBounds_toArray, List.set_cons_zero, List.set_cons_succ, List.getElem_toArray, List.getElem_cons_zero, List.getElem_cons_succ]
  refine AnyTo.gone (i := 7) (by kernel_rfl) rfl (by rfl) (fun K hK => ?_)
  go_simp
  refine hK _ _ (fun h => absurd h (by decide)) ?_
  clear hK K
  try simp only [Act.put, List.setIfInBounds_toArray, List.set_cons_zero, List.set_cons_succ, List.getElem_toArray, List.getElem_cons_zero, List.getElem_cons_succ]
  refine AnyTo.done (by kernel_rfl) ?_ _
  try dsimp only [Exit.then]
  generalize wa.setCell ⟨cb, 0, none⟩ (.slice Axr lxr cxr) = wr at hC ⊢
  clear ca fa h1 h2 HCa HCd EC
  have HC := Lib.hid hC
  clear hC EX hsr hcc hbc hS
  go_wp2_with fail
  go_ret
  exact ⟨rfl, _, by rw [HL0.out, show L ++ outB y = L1 ++ txt y.sc by rw [HL1.out, Hnv.out]; simp only [outB, List.append_assoc]]; exact HC.out⟩
set_option maxHeartbeats 4000000 in
theorem each_in (W : Nat → List (BitVec 8)) (A : Option Addr) (n cap b o B cb : Nat) (w0 w : World) (v : Value) (hA : 0 < n → A = some ⟨b, o, none⟩) (hn : n ≤ 1000000)
    (hK : ∀ i, i < n → ∀ wq u, CapV w0 B cb u wq (W i) → Calls Try.prog 83 #[.pointer (some ⟨b, o + i * 36, none⟩), .pointer (some ⟨cb, 0, none⟩)] wq (WrPost w0 B cb (W (i + 1)))) (hC : CapV w0 B cb v w (W 0)) :
    Calls Try.prog 82 #[.slice A n cap, .func (.func 83) #[] #[.pointer (some ⟨cb, 0, none⟩)]] w (WrPost w0 B cb (W n)) := by
  have HK := Lib.hid hK
  have HC := Lib.hid hC
  have HA := Lib.hid hA
  clear hK hC hA
  go_enter Try.func82, Try.ntmps82
  go_wp2_with fail
  go_loopw [9] (fun iv wq => ∃ (i : Nat) (u : Value), i ≤ n ∧ iv = .int .i64 (i : Int) ∧ CapV w0 B cb u wq (W i)) (fun iv _ => n - (intOf iv).toNat)
  case atStart => exact ⟨0, v, Nat.zero_le _, rfl, HC.out⟩
  case round =>
    clear HC
    obtain ⟨i, u, hi, rfl, hC⟩ := hrel
    by_cases hlt : i < n
    · have hlt' : (i : Int) < (n : Int) := by omega
      obtain rfl := HA.out (by omega)
      have K := Lib.hid (HK.out i hlt wr u hC)
      clear hC
      go_wp2_with (go_at_call 83; (with_reducible refine K.out.mono ?_); rintro e w2 ⟨rfl, u2, hC2⟩; dsimp only)
      go_roundw
      case rel => exact ⟨i + 1, u2, by omega, by go_num, hC2⟩
      case measure => simp [intOf]; omega
    · obtain rfl : i = n := by omega
      have hlt' : ¬ (i : Int) < (i : Int) := by omega
      have HC := Lib.hid hC
      clear hC
      go_wp2_with fail
      go_ret
      exact ⟨rfl, u, HC.out⟩
set_option maxHeartbeats 4000000 in
theorem each_wit (W : Nat → List (BitVec 8)) (A : Option Addr) (n cap b o B cb : Nat) (w0 w : World) (v : Value) (hA : 0 < n → A = some ⟨b, o, none⟩) (hn : n ≤ 1000000)
    (hK : ∀ i, i < n → ∀ wq u, CapV w0 B cb u wq (W i) → Calls Try.prog 99 #[.pointer (some ⟨b, o + i * 36, none⟩), .pointer (some ⟨cb, 0, none⟩)] wq (WrPost w0 B cb (W (i + 1)))) (hC : CapV w0 B cb v w (W 0)) :
    Calls Try.prog 82 #[.slice A n cap, .func (.func 99) #[] #[.pointer (some ⟨cb, 0, none⟩)]] w (WrPost w0 B cb (W n)) := by
  have HK := Lib.hid hK
  have HC := Lib.hid hC
  have HA := Lib.hid hA
  clear hK hC hA
  go_enter Try.func82, Try.ntmps82
  go_wp2_with fail
  go_loopw [9] (fun iv wq => ∃ (i : Nat) (u : Value), i ≤ n ∧ iv = .int .i64 (i : Int) ∧ CapV w0 B cb u wq (W i)) (fun iv _ => n - (intOf iv).toNat)
  case atStart => exact ⟨0, v, Nat.zero_le _, rfl, HC.out⟩
  case round =>
    clear HC
    obtain ⟨i, u, hi, rfl, hC⟩ := hrel
    by_cases hlt : i < n
    · have hlt' : (i : Int) < (n : Int) := by omega
      obtain rfl := HA.out (by omega)
      have K := Lib.hid (HK.out i hlt wr u hC)
      clear hC
      go_wp2_with (go_at_call 99; (with_reducible refine K.out.mono ?_); rintro e w2 ⟨rfl, u2, hC2⟩; dsimp only)
      go_roundw
      case rel => exact ⟨i + 1, u2, by omega, by go_num, hC2⟩
      case measure => simp [intOf]; omega
    · obtain rfl : i = n := by omega
      have hlt' : ¬ (i : Int) < (i : Int) := by omega
      have HC := Lib.hid hC
      clear hC
      go_wp2_with fail
      go_ret
      exact ⟨rfl, u, HC.out⟩
set_option maxHeartbeats 4000000 in
theorem each_out (W : Nat → List (BitVec 8)) (A : Option Addr) (n cap b o B cb : Nat) (w0 w : World) (v : Value) (hA : 0 < n → A = some ⟨b, o, none⟩) (hn : n ≤ 1000000)
    (hK : ∀ i, i < n → ∀ wq u, CapV w0 B cb u wq (W i) → Calls Try.prog 86 #[.pointer (some ⟨b, o + i * 2, none⟩), .pointer (some ⟨cb, 0, none⟩)] wq (WrPost w0 B cb (W (i + 1)))) (hC : CapV w0 B cb v w (W 0)) :
    Calls Try.prog 85 #[.slice A n cap, .func (.func 86) #[] #[.pointer (some ⟨cb, 0, none⟩)]] w (WrPost w0 B cb (W n)) := by
  have HK := Lib.hid hK
  have HC := Lib.hid hC
  have HA := Lib.hid hA
  clear hK hC hA
  go_enter Try.func85, Try.ntmps85
  go_wp2_with fail
  go_loopw [9] (fun iv wq => ∃ (i : Nat) (u : Value), i ≤ n ∧ iv = .int .i64 (i : Int) ∧ CapV w0 B cb u wq (W i)) (fun iv _ => n - (intOf iv).toNat)
  case atStart => exact ⟨0, v, Nat.zero_le _, rfl, HC.out⟩
  case round =>
    clear HC
    obtain ⟨i, u, hi, rfl, hC⟩ := hrel
    by_cases hlt : i < n
    · have hlt' : (i : Int) < (n : Int) := by omega
      obtain rfl := HA.out (by omega)
      have K := Lib.hid (HK.out i hlt wr u hC)
      clear hC
      go_wp2_with (go_at_call 86; (with_reducible refine K.out.mono ?_); rintro e w2 ⟨rfl, u2, hC2⟩; dsimp only)
      go_roundw
      case rel => exact ⟨i + 1, u2, by omega, by go_num, hC2⟩
      case measure => simp [intOf]; omega
    · obtain rfl : i = n := by omega
      have hlt' : ¬ (i : Int) < (i : Int) := by omega
      have HC := Lib.hid hC
      clear hC
      go_wp2_with fail
      go_ret
      exact ⟨rfl, u, HC.out⟩
open Go.RowKit
set_option linter.unusedVariables false
set_option linter.unusedSimpArgs false
set_option maxRecDepth 100000
theorem wp_calm_any {P : Program} {c : Code} {Q' : Exit → Act → World → Prop} {a : Act} {w : World}
    (h : c.wp P (Exit.then (fun a w => Q' .normal a w) fun _ _ _ => False) a w) : c.wp P Q' a w :=
  Code.wp_mono (fun e a w q => by cases e <;> first | exact q | exact q.elim) h
theorem flat_le {α : Type} (f : α → List (BitVec 8)) (k : Nat) : ∀ (l : List α), (∀ x ∈ l, (f x).length ≤ k) → (l.map f).flatten.length ≤ l.length * k
  | [], _ => by simp
  | x :: l, h => by
    have h1 := h x (List.mem_cons_self ..)
    have h2 := flat_le f k l fun y hy => h y (List.mem_cons_of_mem _ hy)
    simp only [List.map_cons, List.flatten_cons, List.length_append, List.length_cons, Nat.add_mul, Nat.one_mul]
    omega
theorem flat_succ {α : Type} (f : α → List (BitVec 8)) (l : List α) (d : α) (i : Nat) (h : i < l.length) : ((l.take (i + 1)).map f).flatten = ((l.take i).map f).flatten ++ f (l.getD i d) := by
  rw [List.take_succ_eq_append_getElem h, List.map_append, List.flatten_append]
  simp [List.getD, h]
theorem getD_mem {α : Type} (l : List α) (d : α) (i : Nat) (h : i < l.length) : l.getD i d ∈ l := by
  have : l.getD i d = l[i] := by simp [List.getD, h]
  rw [this]; exact List.getElem_mem h
theorem take_sub {α : Type} {l : List α} {i : Nat} {P : α → Prop} (h : ∀ x ∈ l, P x) : ∀ x ∈ l.take i, P x := fun x hx => h x (List.mem_of_mem_take hx)
set_option maxHeartbeats 8000000 in
theorem wWit_any (x : TIn) (s u : Value) (g o B cb : Nat) (v : Value) (w0 w : World) (L : List (BitVec 8)) (hg : g < B) (hr : w0.rangeAt g o (inV x s u)) (hok : InOk w0 B x s u) (hC : CapV w0 B cb v w L) (hl : L.length ≤ 1000000) (hwl : x.wt.length ≤ 1000) (hwi : ∀ t ∈ x.wt, t.length ≤ 1000) :
    Calls Try.prog 99 #[.pointer (some ⟨g, o, none⟩), .pointer (some ⟨cb, 0, none⟩)] w (WrPost w0 B cb (L ++ witB x)) := by
  obtain ⟨hs, hu, h32, hix, hsq⟩ := hok
  obtain ⟨e32, e33, e34, e35⟩ := inV_at (x := x) (s := s) (v := u) h32
  obtain ⟨A2, c2, rfl, _, _, hrow⟩ := hu
  have c35 := hr 35 _ e35
  have HX : Hid (∀ wq, Below B w0 wq → wq.cell? ⟨g, o + 35, none⟩ = some (.slice A2 x.wt.length c2)) := fun wq hq => by rw [hq.cell (p := ⟨g, o + 35, none⟩) hg]; exact c35
  obtain ⟨X, hX⟩ : ∃ X, X = x.wt := ⟨_, rfl⟩
  have eW : witB x = form X.length ++ (X.map txt).flatten := by rw [hX]; rfl
  rw [← hX] at HX hrow hwl hwi
  obtain ⟨n, hn⟩ : ∃ n, n = X.length := ⟨_, rfl⟩
  have HR : Hid (∀ i, i < n → ∃ wb wo Ai ci, A2 = some ⟨wb, wo, none⟩ ∧ wb < B ∧ w0.cell? ⟨wb, wo + i, none⟩ = some (.slice Ai (X.getD i []).length ci) ∧ Rd w0 B Ai (X.getD i []) ∧ (Ai = none → ci = 0)) := fun i hi => by
    obtain ⟨wb, wo, e, hlt, hh⟩ := hrow (by omega)
    obtain ⟨ui, hc, Ai, ci, rfl, hrd, _, _, hcn⟩ := hh i (by omega)
    rw [Nat.mul_one] at hc
    exact ⟨wb, wo, Ai, ci, e, hlt, hc, hrd, hcn⟩
  have Hwi := Lib.hid hwi
  rw [← hn] at HX hwl
  obtain ⟨m1, hm1⟩ : ∃ m, m = (form n).length := ⟨_, rfl⟩
  have hm1l : m1 ≤ 9 := by rw [hm1, form_len]; have := wid_le n; omega
  have K1 := Lib.hid (fun wq => count_w n m1 wq (by omega) hm1.symm)
  obtain ⟨L0, hL0⟩ : ∃ M, M = L ++ witB x := ⟨_, rfl⟩
  rw [← hL0]
  have HL0 : Hid (L0 = L ++ (form n ++ (X.map txt).flatten)) := show L0 = L ++ (form n ++ (X.map txt).flatten) by rw [hL0, eW, hn]
  have Hn := Lib.hid hn
  have Hm1 := Lib.hid hm1
  clear hs hr e32 e33 e34 e35 hrow c35 hX eW hn hm1 hL0 hwi h32
  go_enter Try.func99, Try.ntmps99
  go_upto_region 1 with fail
  generalize hWd : w.drew = Wd
  have hCd : CapV w0 B cb v Wd L := by rw [← hWd]; exact hC.drew
  have EC : Hid (∀ wq, SB Wd wq → wq.cell? ⟨cb, 0, none⟩ = some v) := fun wq hq => hq.cell (hCd.blk.cell rfl)
  have EX : Hid (∀ wq, SB Wd wq → wq.cell? ⟨g, o + 35, none⟩ = some (.slice A2 n c2)) := fun wq hq => hq.cell (HX.out Wd hCd.bel)
  have HCd := Lib.hid hCd
  clear hCd hC
  refine wp_region_to (z := 7) (SB Wd) (by kernel_rfl) ?_
  rw [hWd]
  have hS : SB Wd Wd := SB.refl Wd
  clear hWd
  refine AnyTo.take (i := 0) (v := v) rfl (by kernel_rfl) (by kernel_rfl) (by kernel_rfl) (by kernel_rfl) (by kernel_rfl) (fun _ _ _ h => h) (Or.inl ⟨by rfl, ?_⟩) hS ?_
  · intro wq hq
    have dq0 := EC.out wq hq
    go_simp
  try simp only [Act.put, List.setIfInBounds_toArray, List.set_cons_zero, List.set_cons_succ, List.getElem_toArray, List.getElem_cons_zero, List.getElem_cons_succ]
  refine AnyTo.take (i := 1) (v := ?_) rfl (by kernel_rfl) (by kernel_rfl) (by kernel_rfl) (by kernel_rfl) (by kernel_rfl) (fun _ _ _ h => h) (Or.inl ⟨by rfl, ?_⟩) hS ?_
  rotate_left
  · (intro wq hq; go_simp; try with_reducible rfl)
  try simp only [Act.put, List.setIfInBounds_toArray, List.set_cons_zero, List.set_cons_succ, List.getElem_toArray, List.getElem_cons_zero, List.getElem_cons_succ]
  refine AnyTo.take (i := 2) (v := ?_) rfl (by kernel_rfl) (by kernel_rfl) (by kernel_rfl) (by kernel_rfl) (by kernel_rfl) (fun _ _ _ h => h) (Or.inl ⟨by rfl, ?_⟩) hS ?_
  rotate_left
  · (intro wq hq; go_simp; try with_reducible rfl)
  try simp only [Act.put, List.setIfInBounds_toArray, List.set_cons_zero, List.set_cons_succ, List.getElem_toArray, List.getElem_cons_zero, List.getElem_cons_succ]
  refine AnyTo.take (i := 3) (v := ?_) rfl (by kernel_rfl) (by kernel_rfl) (by kernel_rfl) (by kernel_rfl) (by kernel_rfl) (fun _ _ _ h => h) (Or.inl ⟨by rfl, ?_⟩) hS ?_
  rotate_left
  · (intro wq hq; go_simp; try with_reducible rfl)
  try simp only [Act.put, List.setIfInBounds_toArray, List.set_cons_zero, List.set_cons_succ, List.getElem_toArray, List.getElem_cons_zero, List.getElem_cons_succ]
  refine AnyTo.take (i := 4) (v := .slice A2 n c2) rfl (by kernel_rfl) (by kernel_rfl) (by kernel_rfl) (by kernel_rfl) (by kernel_rfl) (fun _ _ _ h => h) (Or.inl ⟨by rfl, ?_⟩) hS ?_
  · intro wq hq
    have dq0 := EX.out wq hq
    go_simp
  try simp only [Act.put, List.setIfInBounds_toArray, List.set_cons_zero, List.set_cons_succ, List.getElem_toArray, List.getElem_cons_zero, List.getElem_cons_succ]
  refine AnyTo.take (i := 5) (v := ?_) rfl (by kernel_rfl) (by kernel_rfl) (by kernel_rfl) (by kernel_rfl) (by kernel_rfl) (fun _ _ _ h => h) (Or.inl ⟨by rfl, ?_⟩) hS ?_
  rotate_left
  · (intro wq hq; go_simp; try with_reducible rfl)
  try simp only [Act.put, List.setIfInBounds_toArray, List.set_cons_zero, List.set_cons_succ, List.getElem_toArray, List.getElem_cons_zero, List.getElem_cons_succ]
  have HCa := HCd.out
  refine AnyTo.gone (i := 6) (by kernel_rfl) rfl (by rfl) (fun K hK => ?_)
  go_simp
  (with_reducible refine (K1.out _).mono ?_)
  rintro e wc ⟨Ac, cc, rfl, hsr, hcc, hbc⟩
  have hS : SB Wd wc := SB.next (SB.refl Wd) hbc
  have HCa := HCa.next hbc
  dsimp only
  refine hK _ _ (fun _ => hS) ?_
  clear hK K
  try simp only [Act.put, List.setIfInBounds_toArray, List.set_cons_zero, List.set_cons_succ, List.getElem_toArray, List.getElem_cons_zero, List.getElem_cons_succ]
  refine AnyTo.gone (i := 7) (by kernel_rfl) rfl (by rfl) (fun K hK => ?_)
  refine wp_app (.tmp 6) (.tmp 12) rfl rfl B v L.length (vbs L) rfl HCa.ob Ac m1 cc (vbs (form n)) rfl hsr hcc (by omega) HCa.hB ?_
  intro vp wa h1 h2
  obtain ⟨ca, fa, hC, Axp, lxp, cxp, rfl⟩ := CapV.app HCa h1 h2
  refine hK _ _ (fun h => absurd h (by decide)) ?_
  clear hK K
  try simp only [Act.put, List.setIfInBounds_toArray, List.set_cons_zero, List.set_cons_succ, List.getElem_toArray, List.getElem_cons_zero, List.getElem_cons_succ]
  refine AnyTo.gone (i := 8) (by kernel_rfl) rfl (by rfl) (fun K hK => ?_)
  go_simp
  refine hK _ _ (fun h => absurd h (by decide)) ?_
  clear hK K
  try simp only [Act.put, List.setIfInBounds_toArray, List.set_cons_zero, List.set_cons_succ, List.getElem_toArray, List.getElem_cons_zero, List.getElem_cons_succ]
  refine AnyTo.done (by kernel_rfl) ?_ _
  try dsimp only [Exit.then]
  generalize wa.setCell ⟨cb, 0, none⟩ (.slice Axp lxp cxp) = wp at hC ⊢
  clear ca fa h1 h2 HCa HCd EC
  obtain ⟨L1, hL1⟩ : ∃ M, M = L ++ form n := ⟨_, rfl⟩
  have hl1 : L1.length ≤ 1000036 := by rw [hL1, List.length_append, ← Hm1.out]; omega
  rw [← hL1] at hC
  have HL1 := Lib.hid hL1
  have c35 := HX.out wp hC.bel
  have HC := Lib.hid hC
  clear hL1 EX hsr hcc hbc hS hC
  go_wp2_with fail
  go_loopw [19] (fun iv wq => ∃ (i : Nat) (z : Value), i ≤ n ∧ iv = .int .i64 (i : Int) ∧ CapV w0 B cb z wq (L1 ++ ((X.take i).map txt).flatten)) (fun iv _ => n - (intOf iv).toNat)
  case atStart => exact ⟨0, _, Nat.zero_le _, rfl, by simpa using HC.out⟩
  case round =>
    clear HC c35
    obtain ⟨i, z, hi, rfl, hC⟩ := hrel
    by_cases hlt : i < n
    · have hlt' : (i : Int) < (n : Int) := by omega
      obtain ⟨wb, wo, Ai, ci, rfl, hwb, hcell, hrd, hcn⟩ := HR.out i hlt
      have c0 : wr.cell? ⟨wb, wo + i, none⟩ = some (.slice Ai (X.getD i []).length ci) := by rw [hC.bel.cell (p := ⟨wb, wo + i, none⟩) hwb]; exact hcell
      obtain ⟨T, hT⟩ : ∃ T, T = X.getD i [] := ⟨_, rfl⟩
      have hTl : T.length ≤ 1000 := by rw [hT]; exact Hwi.out _ (getD_mem _ _ _ (by rw [← Hn.out]; exact hlt))
      have hst := flat_succ txt X [] i (by rw [← Hn.out]; exact hlt)
      have hbd : ((X.take i).map txt).flatten.length ≤ i * 1009 := by
        have := flat_le txt 1009 (X.take i) (take_sub fun t ht => by have h1 := txt_len t; have h2 := Hwi.out t ht; omega)
        rw [List.length_take, Nat.min_eq_left (by rw [← Hn.out]; exact hi)] at this
        exact this
      rw [← hT] at c0 hrd hst
      obtain ⟨m2, hm2⟩ : ∃ m, m = (txt T).length := ⟨_, rfl⟩
      have hm2l : m2 ≤ 1009 := by have := txt_len T; omega
      obtain ⟨n1, hn1⟩ : ∃ n, n = T.length := ⟨_, rfl⟩
      have K2 : Hid (∀ wq, Below B w0 wq → B ≤ wq.heap.size → Calls Try.prog 84 #[.slice none 0 0, .slice Ai n1 ci] wq fun e w' => ∃ A c, e = .returned (.slice A m2 c) ∧ Src22 w' A m2 (vbs (txt T)) ∧ (A = none → c = 0) ∧ Below wq.heap.size wq w') := fun wq hq hB =>
        text_w T Ai n1 ci m2 wq hn1.symm hm2.symm ((hrd.keep hq).up hB) hcn (by omega)
      rw [← hn1] at c0
      obtain ⟨L2, hL2⟩ : ∃ M, M = L1 ++ ((X.take i).map txt).flatten := ⟨_, rfl⟩
      have hl2 : L2.length ≤ 2100036 := by rw [hL2, List.length_append]; omega
      have HS2 : Hid (L1 ++ ((X.take (i + 1)).map txt).flatten = L2 ++ txt T) := show L1 ++ ((X.take (i + 1)).map txt).flatten = L2 ++ txt T by rw [hst, hL2, List.append_assoc]
      rw [← hL2] at hC
      have HC := Lib.hid hC
      clear hcell hrd hcn hT hst hbd hm2 hn1 hL2 hC hTl
      go_upto_region 5 with fail
      have hC := HC.out
      clear HC
      generalize hWd : wr.drew = Wd
      have hCd : CapV w0 B cb z Wd L2 := by rw [← hWd]; exact hC.drew
      have EC : Hid (∀ wq, SB Wd wq → wq.cell? ⟨cb, 0, none⟩ = some z) := fun wq hq => hq.cell (hCd.blk.cell rfl)
      have HCd := Lib.hid hCd
      clear hCd hC
      refine wp_calm_any ?_
      refine wp_region_to (z := 3) (SB Wd) (by kernel_rfl) ?_
      rw [hWd]
      have hS : SB Wd Wd := SB.refl Wd
      clear hWd
      refine AnyTo.take (i := 0) (v := z) rfl (by kernel_rfl) (by kernel_rfl) (by kernel_rfl) (by kernel_rfl) (by kernel_rfl) (fun _ _ _ h => h) (Or.inl ⟨by rfl, ?_⟩) hS ?_
      · intro wq hq
        have dq0 := EC.out wq hq
        go_simp
      try simp only [Act.put, List.setIfInBounds_toArray, List.set_cons_zero, List.set_cons_succ, List.getElem_toArray, List.getElem_cons_zero, List.getElem_cons_succ]
      refine AnyTo.take (i := 1) (v := ?_) rfl (by kernel_rfl) (by kernel_rfl) (by kernel_rfl) (by kernel_rfl) (by kernel_rfl) (fun _ _ _ h => h) (Or.inl ⟨by rfl, ?_⟩) hS ?_
      rotate_left
      · (intro wq hq; go_simp; try with_reducible rfl)
      try simp only [Act.put, List.setIfInBounds_toArray, List.set_cons_zero, List.set_cons_succ, List.getElem_toArray, List.getElem_cons_zero, List.getElem_cons_succ]
      have HCa := HCd.out
      refine AnyTo.gone (i := 2) (by kernel_rfl) rfl (by rfl) (fun K hK => ?_)
      go_simp
      (with_reducible refine (K2.out _ HCa.bel HCa.hB).mono ?_)
      rintro e wc ⟨Ac, cc, rfl, hsr, hcc, hbc⟩
      have hS : SB Wd wc := SB.next (SB.refl Wd) hbc
      have HCa := HCa.next hbc
      dsimp only
      refine hK _ _ (fun _ => hS) ?_
      clear hK K
      try simp only [Act.put, List.setIfInBounds_toArray, List.set_cons_zero, List.set_cons_succ, List.getElem_toArray, List.getElem_cons_zero, List.getElem_cons_succ]
      refine AnyTo.gone (i := 3) (by kernel_rfl) rfl (by rfl) (fun K hK => ?_)
      refine wp_app (.tmp 23) (.tmp 25) rfl rfl B z L2.length (vbs L2) rfl HCa.ob Ac m2 cc (vbs (txt T)) rfl hsr hcc (by omega) HCa.hB ?_
      intro vt wa h1 h2
      obtain ⟨ca, fa, hC, Axt, lxt, cxt, rfl⟩ := CapV.app HCa h1 h2
      refine hK _ _ (fun h => absurd h (by decide)) ?_
      clear hK K
      try simp only [Act.put, List.setIfInBounds_toArray, List.set_cons_zero, List.set_cons_succ, List.getElem_toArray, List.getElem_cons_zero, List.getElem_cons_succ]
      refine AnyTo.gone (i := 4) (by kernel_rfl) rfl (by rfl) (fun K hK => ?_)
      go_simp
      refine hK _ _ (fun h => absurd h (by decide)) ?_
      clear hK K
      try simp only [Act.put, List.setIfInBounds_toArray, List.set_cons_zero, List.set_cons_succ, List.getElem_toArray, List.getElem_cons_zero, List.getElem_cons_succ]
      refine AnyTo.done (by kernel_rfl) ?_ _
      try dsimp only [Exit.then]
      generalize wa.setCell ⟨cb, 0, none⟩ (.slice Axt lxt cxt) = wt at hC ⊢
      clear ca fa h1 h2 HCa HCd EC
      have HC := Lib.hid hC
      clear hC hsr hcc hbc hS
      go_wp2_with fail
      go_roundw
      case rel => exact ⟨i + 1, _, by omega, by go_num, by rw [HS2.out]; exact HC.out⟩
      case measure => simp [intOf]; omega
    · obtain rfl : i = n := by omega
      have hlt' : ¬ (i : Int) < (i : Int) := by omega
      rw [List.take_of_length_le (by rw [Hn.out]; exact Nat.le_refl _)] at hC
      have HC := Lib.hid hC
      clear hC
      go_wp2_with fail
      go_ret
      exact ⟨rfl, _, by rw [HL0.out, ← List.append_assoc, ← HL1.out]; exact HC.out⟩
/-- The bytes of all inputs' witnesses. -/
def witsB (xs : List TIn) : List (BitVec 8) := (xs.map witB).flatten
/-- Witnesses short enough to be written. -/
def WitOk (xs : List TIn) : Prop := ∀ x ∈ xs, x.wt.length ≤ 8 ∧ ∀ t ∈ x.wt, t.length ≤ 128
theorem witB_le {xs : List TIn} (h : WitOk xs) : ∀ x ∈ xs, (witB x).length ≤ 2000 := fun x hx => by
  obtain ⟨h1, h2⟩ := h x hx
  have h3 := flat_le txt 137 x.wt fun t ht => by have := txt_len t; have := h2 t ht; omega
  have h4 := wid_le x.wt.length
  simp only [witB, List.length_append, form_len]
  omega
set_option maxHeartbeats 4000000 in
theorem wits_any (xs : List TIn) (i : Value) (w : World) (h : Is w w.heap.size i xs) (hl : xs.length ≤ 16) (hok : WitOk xs) : Calls Try.prog 87 #[i] w (LaidPost (witsB xs) w) := by
  obtain ⟨A, cap, rfl, _, _, hrow⟩ := h
  obtain ⟨b, o, hA, hb⟩ : ∃ b o, (0 < xs.length → A = some ⟨b, o, none⟩) ∧ ∀ j, j < xs.length → b < w.heap.size ∧ ∃ s u, w.rangeAt b (o + j * 36) (inV (xs.getD j In0) s u) ∧ InOk w w.heap.size (xs.getD j In0) s u := by
    by_cases hp : 0 < xs.length
    · obtain ⟨b, o, e, hlt, hh⟩ := hrow hp
      exact ⟨b, o, fun _ => e, fun j hj => ⟨hlt, hh j hj⟩⟩
    · exact ⟨0, 0, fun h => absurd h hp, fun j hj => by omega⟩
  have hC1 : CapV w w.heap.size w.heap.size (.slice none 0 0) (w.alloc (.cells #[.slice none 0 0] 22)) [] := ⟨Blk.new w 22 #[.slice none 0 0], OB.nil _ _, (Below.refl _ _).alloc (Nat.le_refl _) _, Nat.le_refl _, Nat.le_refl _⟩
  have K := Lib.hid (each_wit (fun j => ((xs.take j).map witB).flatten) A xs.length cap b o w.heap.size w.heap.size w _ _ hA (by omega) (fun j hj wq u hC => by
    obtain ⟨hlt, s, u', hr, hk⟩ := hb j hj
    have hle : ((xs.take j).map witB).flatten.length ≤ j * 2000 := by
      have := flat_le witB 2000 (xs.take j) (take_sub (witB_le hok))
      rw [List.length_take, Nat.min_eq_left (by omega)] at this
      exact this
    obtain ⟨k1, k2⟩ := hok _ (getD_mem xs In0 j hj)
    have := wWit_any (xs.getD j In0) s u' b (o + j * 36) w.heap.size w.heap.size u w wq _ hlt hr hk hC (by omega) (by omega) (fun t ht => by have := k2 t ht; omega)
    rw [← flat_succ witB xs In0 j hj] at this
    exact this) hC1)
  rw [List.take_of_length_le (Nat.le_refl _)] at K
  obtain ⟨n, hn⟩ : ∃ n, n = xs.length := ⟨_, rfl⟩
  rw [← hn] at K ⊢
  clear hrow hA hb hC1 hok hn
  go_enter Try.func87, Try.ntmps87
  go_wp2_with (go_at_call 82; (with_reducible refine K.out.mono ?_); rintro e w2 ⟨rfl, v2, hC2⟩; have cv := hC2.blk.cell (j := 0) rfl; have HC2 := Lib.hid hC2; clear hC2; dsimp only)
  go_ret
  exact ⟨_, rfl, HC2.out.ob, HC2.out.bel⟩
open Go.RowKit
set_option linter.unusedVariables false
set_option linter.unusedSimpArgs false
set_option maxRecDepth 100000
/-- The bytes of a transaction, full or bare. -/
def layB (t : TTx) (full : Bool) : List (BitVec 8) :=
  les t.ver 4 ++ (if full = true then [0, 1] else []) ++ form t.ins.length ++ (t.ins.map inB).flatten ++ form t.outs.length ++ (t.outs.map outB).flatten ++ (if full = true then witsB t.ins else []) ++ les t.lock 4
theorem chk_zero {t : TTx} (h : chk t = 0) : t.ins.length ≤ 16 ∧ t.outs.length ≤ 16 ∧ (∀ x ∈ t.ins, x.sc.length ≤ 128) ∧ WitOk t.ins ∧ (∀ y ∈ t.outs, y.sc.length ≤ 128) ∧ 0 < t.ins.length ∧ 0 < t.outs.length := by
  have fit : ∀ n, fitE n = 0 → 0 < n ∧ n ≤ 16 := by
    intro n hn
    unfold fitE at hn
    split at hn
    · cases hn
    · split at hn
      · cases hn
      · omega
  unfold chk at h
  split at h
  · rename_i h1; exact absurd h h1
  · rename_i h1
    split at h
    · rename_i h2; exact absurd h h2
    · rename_i h2
      split at h
      · cases h
      · rename_i h3
        have e1 : t.ins.any lngIn = false := by cases hh : t.ins.any lngIn with | true => exact absurd (Or.inl hh) h3 | false => rfl
        have e2 : t.outs.any lngOut = false := by cases hh : t.outs.any lngOut with | true => exact absurd (Or.inr hh) h3 | false => rfl
        have f1 := fit _ (Decidable.not_not.1 h1)
        have f2 := fit _ (Decidable.not_not.1 h2)
        refine ⟨f1.2, f2.2, fun x hx => ?_, fun x hx => ?_, fun y hy => ?_, f1.1, f2.1⟩
        · have := List.any_eq_false.1 e1 x hx
          simp [lngIn, lng] at this
          omega
        · have := List.any_eq_false.1 e1 x hx
          simp [lngIn, lng] at this
          exact ⟨by omega, fun t ht => this.2 t ht⟩
        · have := List.any_eq_false.1 e2 y hy
          simp [lngOut, lng] at this
          omega
theorem strCells_vbs : Lib.strCells { data := #[0, 1] } = vbs [0, 1] := by kernel_rfl
theorem run_appS {w : World} {B : Nat} {v : Value} {L : List (BitVec 8)} (hown : OB w B v L) (hb : L.length ≤ 1000000) (hbase : B ≤ w.heap.size) :
    ∃ v' w', (Builtin.append_ #[22, 9] 22 #[v, .string { data := #[0, 1] }]).run Try.prog w = .ok v' w' ∧ w'.ownsRow B 5 1 v' (L.length + 2) (vbs L ++ vbs [0, 1]) ∧ w.grownBy w' v.ownBlock := by
  obtain ⟨i0, hi, hz0, hz1, hz2⟩ := info_parts info5
  obtain ⟨v', w', hr, ho, hg, _⟩ := Lib.run_append_own_string (P := Try.prog) w B 22 9 22 5 i0 Try.underlying22 Try.underlying9 hi hz0 hz1 hz2 v L.length (vbs L) hown { data := #[0, 1] } (by show L.length + 2 ≤ _; unfold maxLen; omega) (by show L.length + 2 ≤ _; omega) hbase
  rw [strCells_vbs] at ho
  exact ⟨v', w', hr, ho, hg⟩
theorem wpList_pushS {w : World} {ops : Array Oper} {rest : List Oper} {o : Oper} {a : Act} {Q : Exit → Act → World → Prop} (hgd : o.guard = none) (s x : Operand) (ho : o.op = .call { callee := .builtin .append, args := #[s, x], argTypes := #[22, 9] }) (hty : o.type = 22)
    (B : Nat) (v : Value) (L : List (BitVec 8)) (hs : a.eval s = v) (hown : OB w B v L) (hx : a.eval x = .string { data := #[0, 1] }) (hb : L.length ≤ 1000000) (hB : B ≤ w.heap.size)
    (h : ∀ v' w', w'.ownsRow B 5 1 v' (L.length + 2) (vbs L ++ vbs [0, 1]) → w.grownBy w' v.ownBlock → wpList Try.prog ops Q rest (a.put o.dst v') w') : wpList Try.prog ops Q (o :: rest) a w := by
  obtain ⟨v', w', hr, h2, h3⟩ := run_appS hown hb hB
  refine wpList_plain hgd fun K hK => ?_
  rw [← hty] at hr
  unfold Oper.wp execOp
  simp only [ho, resolve, invoke, builtin, Sem.run_bind, Sem.run_pure, Result.andThen_ok, List.map_toArray, List.map_cons, List.map_nil, hs, hx]
  rw [hty] at hr ⊢
  simp only [hr]
  exact hK _ _ (h v' w' h2 h3)
theorem Row.open {w : World} {B : Nat} {v : Value} {n k : Nat} {R : Nat → Nat → Nat → Prop} (h : Row w B v n k R) :
    ∃ A cap b o, v = .slice A n cap ∧ (0 < n → A = some ⟨b, o, none⟩) ∧ ∀ j, j < n → b < B ∧ R j b (o + j * k) := by
  obtain ⟨A, cap, e, _, _, hr⟩ := h
  by_cases hp : 0 < n
  · obtain ⟨b, o, eA, hlt, hh⟩ := hr hp
    exact ⟨A, cap, b, o, e, fun _ => eA, fun j hj => ⟨hlt, hh j hj⟩⟩
  · exact ⟨A, cap, 0, 0, e, fun h => absurd h hp, fun j hj => by omega⟩
theorem inB_le {x : TIn} (h : x.sc.length ≤ 128) (h32 : x.tx.length = 32) : (inB x).length ≤ 200 := by
  have := txt_len x.sc
  simp only [inB, List.length_append, les_len]
  omega
theorem outB_le {y : TOut} (h : y.sc.length ≤ 128) : (outB y).length ≤ 200 := by
  have := txt_len y.sc
  simp only [outB, List.length_append, les_len]
  omega
theorem wits_w (xs : List TIn) (A : Option Addr) (n c m : Nat) (w : World) (h : Is w w.heap.size (.slice A n c) xs) (hl : xs.length ≤ 16) (hok : WitOk xs) (hm : (witsB xs).length = m) :
    Calls Try.prog 87 #[.slice A n c] w fun e w' => ∃ A' c', e = .returned (.slice A' m c') ∧ Src22 w' A' m (vbs (witsB xs)) ∧ (A' = none → c' = 0) ∧ Below w.heap.size w w' :=
  (wits_any xs _ w h hl hok).mono fun e w' ⟨v, he, ho, hb⟩ => by
    obtain ⟨A', c', rfl, hr, hc⟩ := slice_form ho
    have hs := src_of_rd hr
    rw [hm] at hs he
    exact ⟨A', c', he, hs, hc, hb⟩
/-- What the writing of all inputs, of all outputs, makes of the variable. -/
theorem ins_wr (xs : List TIn) (A : Option Addr) (n c B cb : Nat) (w0 w : World) (v : Value) (L : List (BitVec 8)) (hn : n = xs.length) (h : Is w0 B (.slice A n c) xs) (hl : n ≤ 16) (hok : ∀ x ∈ xs, x.sc.length ≤ 128) (hL : L.length ≤ 10000) (hC : CapV w0 B cb v w L) :
    Calls Try.prog 82 #[.slice A n c, .func (.func 83) #[] #[.pointer (some ⟨cb, 0, none⟩)]] w (WrPost w0 B cb (L ++ (xs.map inB).flatten)) := by
  obtain ⟨A', c', b, o, e, hA, hj⟩ := Row.open h
  subst hn
  cases e
  have hlen : ∀ x ∈ xs, (inB x).length ≤ 200 := fun x hx => by
    obtain ⟨k, hk, rfl⟩ := List.getElem_of_mem hx
    obtain ⟨_, s, u, _, _, _, h32, _, _⟩ := hj k hk
    have e : xs.getD k In0 = xs[k] := by simp [List.getD, hk]
    rw [e] at h32
    exact inB_le (hok _ hx) h32
  have K := each_in (fun j => L ++ ((xs.take j).map inB).flatten) A xs.length c b o B cb w0 w v hA (by omega) (fun j hjn wq u hC' => by
    obtain ⟨hlt, s, u', hr, hk⟩ := hj j hjn
    have hle : ((xs.take j).map inB).flatten.length ≤ j * 200 := by
      have := flat_le inB 200 (xs.take j) (take_sub hlen)
      rw [List.length_take, Nat.min_eq_left (by omega)] at this
      exact this
    have := wIn_any (xs.getD j In0) s u' b (o + j * 36) B cb u w0 wq _ hlt hr hk hC' (by rw [List.length_append]; omega) (by have := hok _ (getD_mem xs In0 j hjn); omega)
    rw [List.append_assoc, ← flat_succ inB xs In0 j hjn] at this
    exact this) (by simpa using hC)
  rw [List.take_of_length_le (Nat.le_refl _)] at K
  exact K
theorem outs_wr (xs : List TOut) (A : Option Addr) (n c B cb : Nat) (w0 w : World) (v : Value) (L : List (BitVec 8)) (hn : n = xs.length) (h : Os w0 B (.slice A n c) xs) (hl : n ≤ 16) (hok : ∀ x ∈ xs, x.sc.length ≤ 128) (hL : L.length ≤ 10000) (hC : CapV w0 B cb v w L) :
    Calls Try.prog 85 #[.slice A n c, .func (.func 86) #[] #[.pointer (some ⟨cb, 0, none⟩)]] w (WrPost w0 B cb (L ++ (xs.map outB).flatten)) := by
  obtain ⟨A', c', b, o, e, hA, hj⟩ := Row.open h
  subst hn
  cases e
  have K := each_out (fun j => L ++ ((xs.take j).map outB).flatten) A xs.length c b o B cb w0 w v hA (by omega) (fun j hjn wq u hC' => by
    obtain ⟨hlt, s, hr, hk⟩ := hj j hjn
    have hle : ((xs.take j).map outB).flatten.length ≤ j * 200 := by
      have := flat_le outB 200 (xs.take j) (take_sub fun x hx => outB_le (hok x hx))
      rw [List.length_take, Nat.min_eq_left (by omega)] at this
      exact this
    have := wOut_any (xs.getD j Out0) s b (o + j * 2) B cb u w0 wq _ hlt hr hk hC' (by rw [List.length_append]; omega) (by have := hok _ (getD_mem xs Out0 j hjn); omega)
    rw [List.append_assoc, ← flat_succ outB xs Out0 j hjn] at this
    exact this) (by simpa using hC)
  rw [List.take_of_length_le (Nat.le_refl _)] at K
  exact K
end Go.Proofs.Ytpamepkcbhoiaaa
