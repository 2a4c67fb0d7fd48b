/- What slices.IndexFunc over inputs and outputs returns. -/
import Derived.Test.YtnkkhmgplpkjbaaDoorLc
import Derived.Outline
namespace Go.Proofs.YtnkkhmgplpkjbaaDoor
open Go.RowKit
set_option linter.unusedVariables false
set_option linter.unusedSimpArgs false
set_option maxRecDepth 100000
theorem load_in {x : TIn} {s u : Value} (wq : World) (b o : Nat) (h : wq.rangeAt b o (inV x s u)) (h32 : x.tx.length = 32) :
    (Instr.loadAt 57 (.pointer (some ⟨b, o, none⟩))).run Tryd.prog wq = .ok (.agg (inV x s u).toArray) wq :=
  run_loadAt_mid wq b o 57 _ _ h Tryd.underlying57 rfl (by rw [inV_len h32]; kernel_rfl)
theorem load_out {y : TOut} {s : Value} (wq : World) (b o : Nat) (h : wq.rangeAt b o (outV y s)) :
    (Instr.loadAt 43 (.pointer (some ⟨b, o, none⟩))).run Tryd.prog wq = .ok (.agg (outV y s).toArray) wq :=
  run_loadAt_mid wq b o 43 _ _ h Tryd.underlying43 rfl (by show _ = some 2; kernel_rfl)
set_option maxHeartbeats 4000000 in
theorem index_long (v : Value) (xs : List TIn) (w : World) (h : Is w w.heap.size v xs) :
    Calls Tryd.prog 52 #[v, .func (.func 32) #[] #[]] w (IxPost (xs.any lngIn) w) := by
  obtain ⟨A, cap, rfl, hl, hm, hr⟩ := h
  have HR := Lib.hid hr
  have hm2 : xs.length ≤ 9223372036854775807 := by omega
  obtain ⟨n, hn⟩ : ∃ n, n = xs.length := ⟨_, rfl⟩
  have Hn := Lib.hid hn
  rw [← hn] at hm2 ⊢
  clear hr hn hl hm
  go_enter Tryd.func52, Tryd.ntmps52
  go_wp2_with fail
  go_loopw [8] (fun iv wq => ∃ i : Nat, i ≤ n ∧ iv = .int .i64 (i : Int) ∧ (xs.take i).any lngIn = false ∧ Below w.heap.size w wq) (fun iv _ => n - (intOf iv).toNat)
  case atStart => exact ⟨0, Nat.zero_le _, rfl, rfl, Below.refl _ _⟩
  case round =>
    obtain ⟨i, hi, rfl, ha, hb⟩ := hrel
    have HA := Lib.hid ha
    have HB := Lib.hid hb
    clear ha hb
    by_cases hlt : i < n
    · have hlt' : (i : Int) < (n : Int) := by omega
      obtain ⟨b, o, rfl, hbl, hc⟩ := HR.out (by rw [← Hn.out]; omega)
      obtain ⟨s, u, cu, hs⟩ := hc i (by rw [← Hn.out]; exact hlt)
      have cr := range_keep cu HB.out hbl
      have hok := (hs.keep HB.out (Nat.le_refl _)).up HB.out.size
      have K := Lib.hid (longIn_any _ s u wr hok)
      have HI : Hid ((Tryd.prog.info? 57).map (·.size) = some (inV (xs.getD i In0) s u).length) := show (Tryd.prog.info? 57).map (·.size) = some (inV (xs.getD i In0) s u).length by rw [show (inV (xs.getD i In0) s u).length = 36 from inV_len hs.2.2.1]; kernel_rfl
      have hst := any_take_succ xs In0 lngIn i (by rw [← Hn.out]; exact hlt)
      have hat := any_at xs In0 lngIn i (by rw [← Hn.out]; exact hlt)
      rw [HA.out, Bool.false_or] at hst
      obtain ⟨C, hC⟩ : ∃ C, C = inV (xs.getD i In0) s u := ⟨_, rfl⟩
      rw [← hC] at K cr HI
      have HRg := Lib.hid cr
      cases hq : lngIn (xs.getD i In0) with
      | true =>
        have HT := Lib.hid (hat hq)
        rw [hq] at K
        clear hst hat hq cu hs hc cr hok hC
        go_wp2_with (first | (go_at_call 32; (with_reducible refine K.out.mono ?_); rintro e w2 ⟨rfl, hb2⟩; dsimp only) | (with_reducible refine wpList_load_mid rfl 57 (.tmp 14) rfl b (o + i * 36) rfl C _ HRg.out Tryd.underlying57 rfl HI.out ?_))
        go_ret
        exact ⟨_, by omega, by omega, rfl, by rw [HT.out]; simp, HB.out.trans (hb2.mono HB.out.size)⟩
      | false =>
        rw [hq] at hst K
        have HT := Lib.hid hst
        clear hst hat hq cu hs hc cr hok hC
        go_wp2_with (first | (go_at_call 32; (with_reducible refine K.out.mono ?_); rintro e w2 ⟨rfl, hb2⟩; dsimp only) | (with_reducible refine wpList_load_mid rfl 57 (.tmp 14) rfl b (o + i * 36) rfl C _ HRg.out Tryd.underlying57 rfl HI.out ?_))
        go_roundw
        case rel => exact ⟨i + 1, by omega, by go_num, HT.out, HB.out.trans (hb2.mono HB.out.size)⟩
        case measure => simp [intOf]; omega
    · obtain rfl : i = n := by omega
      have hlt' : ¬ (i : Int) < (i : Int) := by omega
      have e : xs.any lngIn = false := by have := HA.out; rwa [List.take_of_length_le (by rw [Hn.out]; exact Nat.le_refl _)] at this
      have HE := Lib.hid e
      clear e
      go_wp2_with fail
      go_ret
      exact ⟨-1, by omega, by omega, rfl, by rw [HE.out]; rfl, HB.out⟩
set_option maxHeartbeats 4000000 in
theorem index_wit (v : Value) (xs : List TIn) (w : World) (h : Is w w.heap.size v xs) :
    Calls Tryd.prog 52 #[v, .func (.func 36) #[] #[]] w (IxPost (xs.any wit) w) := by
  obtain ⟨A, cap, rfl, hl, hm, hr⟩ := h
  have HR := Lib.hid hr
  have hm2 : xs.length ≤ 9223372036854775807 := by omega
  obtain ⟨n, hn⟩ : ∃ n, n = xs.length := ⟨_, rfl⟩
  have Hn := Lib.hid hn
  rw [← hn] at hm2 ⊢
  clear hr hn hl hm
  go_enter Tryd.func52, Tryd.ntmps52
  go_wp2_with fail
  go_loopw [8] (fun iv wq => ∃ i : Nat, i ≤ n ∧ iv = .int .i64 (i : Int) ∧ (xs.take i).any wit = false ∧ Below w.heap.size w wq) (fun iv _ => n - (intOf iv).toNat)
  case atStart => exact ⟨0, Nat.zero_le _, rfl, rfl, Below.refl _ _⟩
  case round =>
    obtain ⟨i, hi, rfl, ha, hb⟩ := hrel
    have HA := Lib.hid ha
    have HB := Lib.hid hb
    clear ha hb
    by_cases hlt : i < n
    · have hlt' : (i : Int) < (n : Int) := by omega
      obtain ⟨b, o, rfl, hbl, hc⟩ := HR.out (by rw [← Hn.out]; omega)
      obtain ⟨s, u, cu, hs⟩ := hc i (by rw [← Hn.out]; exact hlt)
      have cr := range_keep cu HB.out hbl
      have hok := (hs.keep HB.out (Nat.le_refl _)).up HB.out.size
      have K := Lib.hid (wit_any _ s u wr hok)
      have HI : Hid ((Tryd.prog.info? 57).map (·.size) = some (inV (xs.getD i In0) s u).length) := show (Tryd.prog.info? 57).map (·.size) = some (inV (xs.getD i In0) s u).length by rw [show (inV (xs.getD i In0) s u).length = 36 from inV_len hs.2.2.1]; kernel_rfl
      have hst := any_take_succ xs In0 wit i (by rw [← Hn.out]; exact hlt)
      have hat := any_at xs In0 wit i (by rw [← Hn.out]; exact hlt)
      rw [HA.out, Bool.false_or] at hst
      obtain ⟨C, hC⟩ : ∃ C, C = inV (xs.getD i In0) s u := ⟨_, rfl⟩
      rw [← hC] at K cr HI
      have HRg := Lib.hid cr
      cases hq : wit (xs.getD i In0) with
      | true =>
        have HT := Lib.hid (hat hq)
        rw [hq] at K
        clear hst hat hq cu hs hc cr hok hC
        go_wp2_with (first | (go_at_call 36; (with_reducible refine K.out.mono ?_); rintro e w2 ⟨rfl, hb2⟩; dsimp only) | (with_reducible refine wpList_load_mid rfl 57 (.tmp 14) rfl b (o + i * 36) rfl C _ HRg.out Tryd.underlying57 rfl HI.out ?_))
        go_ret
        exact ⟨_, by omega, by omega, rfl, by rw [HT.out]; simp, HB.out.trans (hb2.mono HB.out.size)⟩
      | false =>
        rw [hq] at hst K
        have HT := Lib.hid hst
        clear hst hat hq cu hs hc cr hok hC
        go_wp2_with (first | (go_at_call 36; (with_reducible refine K.out.mono ?_); rintro e w2 ⟨rfl, hb2⟩; dsimp only) | (with_reducible refine wpList_load_mid rfl 57 (.tmp 14) rfl b (o + i * 36) rfl C _ HRg.out Tryd.underlying57 rfl HI.out ?_))
        go_roundw
        case rel => exact ⟨i + 1, by omega, by go_num, HT.out, HB.out.trans (hb2.mono HB.out.size)⟩
        case measure => simp [intOf]; omega
    · obtain rfl : i = n := by omega
      have hlt' : ¬ (i : Int) < (i : Int) := by omega
      have e : xs.any wit = false := by have := HA.out; rwa [List.take_of_length_le (by rw [Hn.out]; exact Nat.le_refl _)] at this
      have HE := Lib.hid e
      clear e
      go_wp2_with fail
      go_ret
      exact ⟨-1, by omega, by omega, rfl, by rw [HE.out]; rfl, HB.out⟩
set_option maxHeartbeats 4000000 in
theorem index_out (v : Value) (xs : List TOut) (w : World) (h : Os w w.heap.size v xs) :
    Calls Tryd.prog 55 #[v, .func (.func 34) #[] #[]] w (IxPost (xs.any lngOut) w) := by
  obtain ⟨A, cap, rfl, hl, hm, hr⟩ := h
  have HR := Lib.hid hr
  have hm2 : xs.length ≤ 9223372036854775807 := by omega
  obtain ⟨n, hn⟩ : ∃ n, n = xs.length := ⟨_, rfl⟩
  have Hn := Lib.hid hn
  rw [← hn] at hm2 ⊢
  clear hr hn hl hm
  go_enter Tryd.func55, Tryd.ntmps55
  go_wp2_with fail
  go_loopw [8] (fun iv wq => ∃ i : Nat, i ≤ n ∧ iv = .int .i64 (i : Int) ∧ (xs.take i).any lngOut = false ∧ Below w.heap.size w wq) (fun iv _ => n - (intOf iv).toNat)
  case atStart => exact ⟨0, Nat.zero_le _, rfl, rfl, Below.refl _ _⟩
  case round =>
    obtain ⟨i, hi, rfl, ha, hb⟩ := hrel
    have HA := Lib.hid ha
    have HB := Lib.hid hb
    clear ha hb
    by_cases hlt : i < n
    · have hlt' : (i : Int) < (n : Int) := by omega
      obtain ⟨b, o, rfl, hbl, hc⟩ := HR.out (by rw [← Hn.out]; omega)
      obtain ⟨s, cu, hs⟩ := hc i (by rw [← Hn.out]; exact hlt)
      have cr := range_keep cu HB.out hbl
      have hok := (hs.keep HB.out (Nat.le_refl _)).up HB.out.size
      have K := Lib.hid (longOut_any _ s wr hok)
      have HI : Hid ((Tryd.prog.info? 43).map (·.size) = some (outV (xs.getD i Out0) s).length) := show (Tryd.prog.info? 43).map (·.size) = some (outV (xs.getD i Out0) s).length by rw [show (outV (xs.getD i Out0) s).length = 2 from rfl]; kernel_rfl
      have hst := any_take_succ xs Out0 lngOut i (by rw [← Hn.out]; exact hlt)
      have hat := any_at xs Out0 lngOut i (by rw [← Hn.out]; exact hlt)
      rw [HA.out, Bool.false_or] at hst
      obtain ⟨C, hC⟩ : ∃ C, C = outV (xs.getD i Out0) s := ⟨_, rfl⟩
      rw [← hC] at K cr HI
      have HRg := Lib.hid cr
      cases hq : lngOut (xs.getD i Out0) with
      | true =>
        have HT := Lib.hid (hat hq)
        rw [hq] at K
        clear hst hat hq cu hs hc cr hok hC
        go_wp2_with (first | (go_at_call 34; (with_reducible refine K.out.mono ?_); rintro e w2 ⟨rfl, hb2⟩; dsimp only) | (with_reducible refine wpList_load_mid rfl 43 (.tmp 14) rfl b (o + i * 2) rfl C _ HRg.out Tryd.underlying43 rfl HI.out ?_))
        go_ret
        exact ⟨_, by omega, by omega, rfl, by rw [HT.out]; simp, HB.out.trans (hb2.mono HB.out.size)⟩
      | false =>
        rw [hq] at hst K
        have HT := Lib.hid hst
        clear hst hat hq cu hs hc cr hok hC
        go_wp2_with (first | (go_at_call 34; (with_reducible refine K.out.mono ?_); rintro e w2 ⟨rfl, hb2⟩; dsimp only) | (with_reducible refine wpList_load_mid rfl 43 (.tmp 14) rfl b (o + i * 2) rfl C _ HRg.out Tryd.underlying43 rfl HI.out ?_))
        go_roundw
        case rel => exact ⟨i + 1, by omega, by go_num, HT.out, HB.out.trans (hb2.mono HB.out.size)⟩
        case measure => simp [intOf]; omega
    · obtain rfl : i = n := by omega
      have hlt' : ¬ (i : Int) < (i : Int) := by omega
      have e : xs.any lngOut = false := by have := HA.out; rwa [List.take_of_length_le (by rw [Hn.out]; exact Nat.le_refl _)] at this
      have HE := Lib.hid e
      clear e
      go_wp2_with fail
      go_ret
      exact ⟨-1, by omega, by omega, rfl, by rw [HE.out]; rfl, HB.out⟩
end Go.Proofs.YtnkkhmgplpkjbaaDoor
