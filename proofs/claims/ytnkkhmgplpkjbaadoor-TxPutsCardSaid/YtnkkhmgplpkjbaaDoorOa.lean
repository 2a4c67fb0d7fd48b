/- What the document's own Check and Witnessed return. -/
import Derived.Test.YtnkkhmgplpkjbaaDoorMg
import Derived.Test.YtnkkhmgplpkjbaaDoorLn
import Derived.Outline
import Derived.Test.YtnkkhmgplpkjbaaDoorUa
namespace Go.Proofs.YtnkkhmgplpkjbaaDoor
open Go.RowKit
set_option linter.unusedSimpArgs false
theorem inV_one {w : World} {B : Nat} {x : TIn} {s u : Value} (h : InOk w B x s u) : ∀ v ∈ inV x s u, v.oneCell' = true := by
  obtain ⟨⟨A, c, rfl, _⟩, ⟨A2, c2, rfl, _⟩, _⟩ := h
  intro v hv
  rcases List.mem_append.1 hv with h | h
  · exact vbs_one _ _ h
  · simp at h
    rcases h with rfl | rfl | rfl | rfl <;> rfl
open Go.RowKit
set_option linter.unusedVariables false
set_option linter.unusedSimpArgs false
set_option maxRecDepth 100000
theorem many_any (n : Nat) (w : World) : Calls Tryd.prog 35 #[.int .i64 (n : Int)] w fun e w' => e = .returned (.int .i64 (fitE n)) ∧ w = w' := by
  by_cases h0 : n = 0
  · subst h0
    go_enter Tryd.func35, Tryd.ntmps35
    go_wp2
    go_ret
    exact ⟨rfl, rfl⟩
  · have h1 : ((n : Int) == 0) = false := by simp; omega
    by_cases h2 : 16 < n
    · have e : fitE n = 3 := by unfold fitE; rw [if_neg h0, if_pos h2]
      have h3 : (16 : Int) < (n : Int) := by omega
      rw [e]
      clear e h0 h2
      go_enter Tryd.func35, Tryd.ntmps35
      go_wp2
      go_ret
      exact ⟨rfl, rfl⟩
    · have e : fitE n = 0 := by unfold fitE; rw [if_neg h0, if_neg h2]
      have h3 : ¬ (16 : Int) < (n : Int) := by omega
      rw [e]
      clear e h0 h2
      go_enter Tryd.func35, Tryd.ntmps35
      go_wp2
      go_ret
      exact ⟨rfl, rfl⟩
theorem any_getD {α : Type} (f : α → Bool) (l : List α) (d : α) (i : Nat) (hi : i < l.length) (h : f (l.getD i d) = true) : l.any f = true :=
  List.any_eq_true.2 ⟨_, getD_mem l d i hi, h⟩
theorem none_getD {α : Type} (f : α → Bool) (l : List α) (d : α) (h : ∀ i, i < l.length → f (l.getD i d) = false) : l.any f = false := by
  apply List.any_eq_false.2
  intro x hx
  obtain ⟨i, hi, rfl⟩ := List.getElem_of_mem hx
  have := h i hi
  simp [List.getD, hi] at this
  simp [this]
theorem next_false {P : Nat → Bool} {k : Nat} (h : ∀ j, j < k → P j = false) (hk : P k = false) : ∀ j, j < k + 1 → P j = false := fun j hj => by
  by_cases e : j = k
  · rw [e]; exact hk
  · exact h j (by omega)
theorem rcheck_at (xs : List TIn) (ys : List TOut) (A1 A2 : Option Addr) (c1 c2 : Nat) (n1 n2 : Nat) (V Lk : Int) (w : World) (hn1 : n1 = xs.length) (hn2 : n2 = ys.length) (h1 : Is w w.heap.size (.slice A1 n1 c1) xs) (h2 : Os w w.heap.size (.slice A2 n2 c2) ys)
    (f1 : fitE n1 = 0) (f2 : fitE n2 = 0) :
    Calls Tryd.prog 13 #[.agg #[.int .u32 V, .slice A1 n1 c1, .slice A2 n2 c2, .int .u32 Lk]] w (IntPost (if xs.any lngIn = true ∨ ys.any lngOut = true then 3 else 0) w) := by
  obtain ⟨A, c, b, o, e1, hA, hr⟩ := Row.open h1
  obtain ⟨A', c', b2, o2, e2, hA2, hr2⟩ := Row.open h2
  have hc1 : n1 ≤ 9223372036854775807 := by obtain ⟨_, _, e, h3, h4, _⟩ := h1; cases e; omega
  have hc2 : n2 ≤ 9223372036854775807 := by obtain ⟨_, _, e, h3, h4, _⟩ := h2; cases e; omega
  subst hn1 hn2
  cases e1
  cases e2
  obtain ⟨w1, hw1⟩ : ∃ w1, w1 = w.alloc (.cells #[.int .u32 V, .slice A1 xs.length c1, .slice A2 ys.length c2, .int .u32 Lk] 26) := ⟨_, rfl⟩
  have hb1 : Below w.heap.size w w1 := by rw [hw1]; exact (Below.refl _ _).alloc (Nat.le_refl _) _
  obtain ⟨C, hC⟩ : ∃ C : Int, C = if xs.any lngIn = true ∨ ys.any lngOut = true then 3 else 0 := ⟨_, rfl⟩
  have E1 : Hid (∀ i, i < xs.length → lngIn (xs.getD i In0) = true → C = 3) := fun i hi h => by rw [hC, if_pos (Or.inl (any_getD lngIn xs In0 i hi h))]
  have E2 : Hid (∀ i, i < ys.length → lngOut (ys.getD i Out0) = true → C = 3) := fun i hi h => by rw [hC, if_pos (Or.inr (any_getD lngOut ys Out0 i hi h))]
  have E0 : Hid ((∀ i, i < xs.length → lngIn (xs.getD i In0) = false) → (∀ i, i < ys.length → lngOut (ys.getD i Out0) = false) → C = 0) := fun h h' => by
    rw [hC, if_neg]
    rw [none_getD lngIn xs In0 h, none_getD lngOut ys Out0 h']
    simp
  have HX : Hid (∀ i, i < xs.length → A1 = some ⟨b, o, none⟩ ∧ ∃ As ls cs Aw lw cw, w1.cell? ⟨b, o + i * 36 + 33, none⟩ = some (.slice As ls cs) ∧ w1.cell? ⟨b, o + i * 36 + 35, none⟩ = some (.slice Aw lw cw) ∧ ls ≤ 9223372036854775807 ∧ lw ≤ 9223372036854775807 ∧
      (lngIn (xs.getD i In0) = (decide (128 < ls) || decide (8 < lw) || (xs.getD i In0).wt.any lng)) ∧ (xs.getD i In0).wt.length = lw ∧
      ∀ k, k < lw → ∃ wb wo At lt ct, Aw = some ⟨wb, wo, none⟩ ∧ w1.cell? ⟨wb, wo + k, none⟩ = some (.slice At lt ct) ∧ lt ≤ 9223372036854775807 ∧ lng ((xs.getD i In0).wt.getD k []) = decide (128 < lt)) := fun i hi => by
    obtain ⟨hlt, s, u, hc, ⟨hs, hu, h32, _, _⟩⟩ := hr i hi
    obtain ⟨_, e33, _, e35⟩ := inV_at (x := xs.getD i In0) (s := s) (v := u) h32
    obtain ⟨As, cs, rfl, _, _, _, _⟩ := hs
    obtain ⟨Aw, cw, wb, wo, rfl, hAw, hww⟩ := Row.open hu
    have hm : (xs.getD i In0).wt.length ≤ 9223372036854775807 := by obtain ⟨_, _, e, h3, h4, _⟩ := hu; cases e; omega
    refine ⟨hA (by omega), As, _, cs, Aw, _, cw, by rw [hb1.cell (p := ⟨b, o + i * 36 + 33, none⟩) hlt]; exact hc 33 _ e33, by rw [hb1.cell (p := ⟨b, o + i * 36 + 35, none⟩) hlt]; exact hc 35 _ e35, by omega, hm, rfl, rfl, fun k hk => ?_⟩
    obtain ⟨hwl, t, hct, At, ct, rfl, _, _, _, _⟩ := hww k hk
    rw [Nat.mul_one] at hct
    exact ⟨wb, wo, At, _, ct, hAw (by omega), by rw [hb1.cell (p := ⟨wb, wo + k, none⟩) hwl]; exact hct, by omega, rfl⟩
  have HY : Hid (∀ i, i < ys.length → A2 = some ⟨b2, o2, none⟩ ∧ ∃ As ls cs, w1.cell? ⟨b2, o2 + i * 2 + 1, none⟩ = some (.slice As ls cs) ∧ ls ≤ 9223372036854775807 ∧ lngOut (ys.getD i Out0) = decide (128 < ls)) := fun i hi => by
    obtain ⟨hlt, s, hc, hs, _, _⟩ := hr2 i hi
    obtain ⟨As, cs, rfl, _, _, _, _⟩ := hs
    exact ⟨hA2 (by omega), As, _, cs, by rw [hb1.cell (p := ⟨b2, o2 + i * 2 + 1, none⟩) hlt]; exact hc 1 _ rfl, by omega, rfl⟩
  have M1 := Lib.hid (many_any xs.length)
  have M2 := Lib.hid (many_any ys.length)
  rw [f1] at M1
  rw [f2] at M2
  rw [← hC]
  obtain ⟨n1, hn1⟩ : ∃ n, n = xs.length := ⟨_, rfl⟩
  obtain ⟨n2, hn2⟩ : ∃ n, n = ys.length := ⟨_, rfl⟩
  rw [← hn1] at HX hc1 hw1 E1 E0 M1 ⊢
  rw [← hn2] at HY hc2 hw1 E2 E0 M2 ⊢
  have hT1 : w1.cell? ⟨w.heap.size, 1, none⟩ = some (.slice A1 n1 c1) := by rw [hw1]; exact cell_new rfl rfl
  have hT2 : w1.cell? ⟨w.heap.size, 2, none⟩ = some (.slice A2 n2 c2) := by rw [hw1]; exact cell_new rfl rfl
  have Hb1 := Lib.hid hb1
  clear hr hr2 hA hA2 h1 h2 hn1 hn2 hb1 hC f1 f2
  go_enter Tryd.func13, Tryd.ntmps13
  go_upto_region 1 with fail
  rw [← hw1]
  generalize w.heap.size = tb at hT1 hT2 ⊢
  clear hw1
  go_wp2_with (first
    | (go_at_call 35; (with_reducible refine (M1.out _).mono ?_); rintro e w' ⟨rfl, rfl⟩; dsimp only)
    | (go_at_call 35; (with_reducible refine (M2.out _).mono ?_); rintro e w' ⟨rfl, rfl⟩; dsimp only))
  go_loop [4] (fun iv => ∃ i : Nat, i ≤ n1 ∧ iv = .int .i64 (i : Int) ∧ ∀ j, j < i → lngIn (xs.getD j In0) = false) (fun iv => n1 - (intOf iv).toNat)
  case atStart => exact ⟨0, Nat.zero_le _, rfl, fun j h => by omega⟩
  case round =>
    obtain ⟨i, hi, rfl, hj0⟩ := hrel
    have HJ := Lib.hid hj0
    clear hj0
    by_cases hi1 : i < n1
    · have hi2 : (i : Int) < (n1 : Int) := by omega
      obtain ⟨rfl, As, ls, cs, Aw, lw, cw, cc, cd, hls, hlw, hL, hwl, hk⟩ := HX.out i hi1
      have HK := Lib.hid hk
      have HLg := Lib.hid hL
      have HWl := Lib.hid hwl
      clear hk hL hwl
      by_cases q : 128 < ls
      · have q1 : (128 : Int) < (ls : Int) := by omega
        go_wp2_with fail
        go_ret
        exact ⟨by rw [E1.out i hi1 (by rw [HLg.out]; simp [q])]; rfl, Hb1.out⟩
      · have q1 : ¬ (128 : Int) < (ls : Int) := by omega
        by_cases q2 : 8 < lw
        · have q3 : (8 : Int) < (lw : Int) := by omega
          go_wp2_with fail
          go_ret
          exact ⟨by rw [E1.out i hi1 (by rw [HLg.out]; simp [q2])]; rfl, Hb1.out⟩
        · have q3 : ¬ (8 : Int) < (lw : Int) := by omega
          go_wp2_with fail
          go_loop [5] (fun kv => ∃ k : Nat, k ≤ lw ∧ kv = .int .i64 (k : Int) ∧ ∀ j, j < k → lng ((xs.getD i In0).wt.getD j []) = false) (fun kv => lw - (intOf kv).toNat)
          case atStart => exact ⟨0, Nat.zero_le _, rfl, fun j h => by omega⟩
          case round =>
            obtain ⟨k, hk, rfl, hkj⟩ := hrel
            have HKJ := Lib.hid hkj
            clear hkj
            by_cases hk1 : k < lw
            · have hk2 : (k : Int) < (lw : Int) := by omega
              obtain ⟨wb, wo, At, lt, ct, rfl, ce, hlt, hlg⟩ := HK.out k hk1
              have HLt := Lib.hid hlg
              clear hlg
              by_cases q4 : 128 < lt
              · have q5 : (128 : Int) < (lt : Int) := by omega
                go_wp2_with fail
                go_ret
                exact ⟨by rw [E1.out i hi1 (by rw [HLg.out, any_getD lng _ [] k (by rw [HWl.out]; exact hk1) (by rw [HLt.out]; simp [q4])]; simp)]; rfl, Hb1.out⟩
              · have q5 : ¬ (128 : Int) < (lt : Int) := by omega
                go_wp2_with fail
                go_round
                case rel => exact ⟨k + 1, by omega, by go_num, next_false (P := fun k => lng ((xs.getD i In0).wt.getD k [])) HKJ.out (by rw [HLt.out]; simp [q4])⟩
                case measure => simp [intOf]; omega
            · have hk2 : ¬ (k : Int) < (lw : Int) := by omega
              go_wp2_with fail
              go_round
              case rel => exact ⟨i + 1, by omega, by go_num, next_false (P := fun i => lngIn (xs.getD i In0)) HJ.out (by rw [HLg.out, none_getD lng _ [] (fun m hm => HKJ.out m (by rw [HWl.out] at hm; omega))]; simp [q, q2])⟩
              case measure => simp [intOf]; omega
    · have hi2 : ¬ (i : Int) < (n1 : Int) := by omega
      go_wp2_with fail
      go_loop [6] (fun iv => ∃ i : Nat, i ≤ n2 ∧ iv = .int .i64 (i : Int) ∧ ∀ j, j < i → lngOut (ys.getD j Out0) = false) (fun iv => n2 - (intOf iv).toNat)
      case atStart => exact ⟨0, Nat.zero_le _, rfl, fun j h => by omega⟩
      case round =>
        obtain ⟨j, hj, rfl, hjj⟩ := hrel
        have HJJ := Lib.hid hjj
        clear hjj
        by_cases hj1 : j < n2
        · have hj2 : (j : Int) < (n2 : Int) := by omega
          obtain ⟨rfl, As, ls, cs, cc, hls, hlo⟩ := HY.out j hj1
          have HLo := Lib.hid hlo
          clear hlo
          by_cases q : 128 < ls
          · have q1 : (128 : Int) < (ls : Int) := by omega
            go_wp2_with fail
            go_ret
            exact ⟨by rw [E2.out j hj1 (by rw [HLo.out]; simp [q])]; rfl, Hb1.out⟩
          · have q1 : ¬ (128 : Int) < (ls : Int) := by omega
            go_wp2_with fail
            go_round
            case rel => exact ⟨j + 1, by omega, by go_num, next_false (P := fun j => lngOut (ys.getD j Out0)) HJJ.out (by rw [HLo.out]; simp [q])⟩
            case measure => simp [intOf]; omega
        · have hj2 : ¬ (j : Int) < (n2 : Int) := by omega
          go_wp2_with fail
          go_ret
          exact ⟨by rw [E0.out (fun m hm => HJ.out m (by omega)) (fun m hm => HJJ.out m (by omega))]; rfl, Hb1.out⟩
theorem rcheck_no (n1 n2 : Nat) (A1 A2 : Option Addr) (c1 c2 : Nat) (V Lk e1 : Int) (w : World) (h : (fitE n1 = e1 ∧ e1 ≠ 0) ∨ (fitE n1 = 0 ∧ fitE n2 = e1 ∧ e1 ≠ 0)) :
    Calls Tryd.prog 13 #[.agg #[.int .u32 V, .slice A1 n1 c1, .slice A2 n2 c2, .int .u32 Lk]] w (IntPost e1 w) := by
  have M1 := Lib.hid (many_any n1)
  have M2 := Lib.hid (many_any n2)
  have HB : Hid (Below w.heap.size w (w.alloc (.cells #[.int .u32 V, .slice A1 n1 c1, .slice A2 n2 c2, .int .u32 Lk] 26))) := (Below.refl _ _).alloc (Nat.le_refl _) _
  rcases h with ⟨f1, hne⟩ | ⟨f1, f2, hne⟩
  · rw [f1] at M1
    have d1 : (e1 == 0) = false := by simpa using hne
    have d2 : (e1 != 0) = true := by simpa using hne
    clear f1 hne
    go_enter Tryd.func13, Tryd.ntmps13
    go_wp2_with (go_at_call 35; (with_reducible refine (M1.out _).mono ?_); rintro e w' ⟨rfl, rfl⟩; dsimp only)
    go_ret
    exact ⟨rfl, HB.out⟩
  · rw [f1] at M1
    rw [f2] at M2
    have d2 : (e1 != 0) = true := by simpa using hne
    clear f1 f2 hne
    go_enter Tryd.func13, Tryd.ntmps13
    go_wp2_with (first
      | (go_at_call 35; (with_reducible refine (M1.out _).mono ?_); rintro e w' ⟨rfl, rfl⟩; dsimp only)
      | (go_at_call 35; (with_reducible refine (M2.out _).mono ?_); rintro e w' ⟨rfl, rfl⟩; dsimp only))
    go_ret
    exact ⟨rfl, HB.out⟩
theorem rcheck_any (t : TTx) (i o : Value) (w : World) (h : TxOk w w.heap.size t i o) : Calls Tryd.prog 13 #[txV t i o] w (IntPost (chk t) w) := by
  obtain ⟨hi, ho, _, _⟩ := h
  have hi' := hi
  have ho' := ho
  obtain ⟨A1, c1, rfl, _⟩ := hi
  obtain ⟨A2, c2, rfl, _⟩ := ho
  unfold chk
  by_cases f1 : fitE t.ins.length = 0
  · rw [if_neg (by simpa using f1)]
    by_cases f2 : fitE t.outs.length = 0
    · rw [if_neg (by simpa using f2)]
      exact rcheck_at t.ins t.outs A1 A2 c1 c2 _ _ _ _ w rfl rfl hi' ho' f1 f2
    · rw [if_pos f2]
      exact rcheck_no _ _ _ _ _ _ _ _ _ w (Or.inr ⟨f1, rfl, f2⟩)
  · rw [if_pos f1]
    exact rcheck_no _ _ _ _ _ _ _ _ _ w (Or.inl ⟨rfl, f1⟩)
theorem rwit_at (xs : List TIn) (A1 A2 : Option Addr) (c1 c2 : Nat) (n1 n2 : Nat) (V Lk : Int) (w : World) (hn1 : n1 = xs.length) (h1 : Is w w.heap.size (.slice A1 n1 c1) xs) :
    Calls Tryd.prog 15 #[.agg #[.int .u32 V, .slice A1 n1 c1, .slice A2 n2 c2, .int .u32 Lk]] w (BoolPost (xs.any wit) w) := by
  obtain ⟨A, c, b, o, e1, hA, hr⟩ := Row.open h1
  have hc1 : n1 ≤ 9223372036854775807 := by obtain ⟨_, _, e, h3, h4, _⟩ := h1; cases e; omega
  subst hn1
  cases e1
  obtain ⟨w1, hw1⟩ : ∃ w1, w1 = w.alloc (.cells #[.int .u32 V, .slice A1 xs.length c1, .slice A2 n2 c2, .int .u32 Lk] 26) := ⟨_, rfl⟩
  have hb1 : Below w.heap.size w w1 := by rw [hw1]; exact (Below.refl _ _).alloc (Nat.le_refl _) _
  obtain ⟨C, hC⟩ : ∃ C : Bool, C = xs.any wit := ⟨_, rfl⟩
  have E1 : Hid (∀ i, i < xs.length → wit (xs.getD i In0) = true → C = true) := fun i hi h => by rw [hC, any_getD wit xs In0 i hi h]
  have E0 : Hid ((∀ i, i < xs.length → wit (xs.getD i In0) = false) → C = false) := fun h => by rw [hC, none_getD wit xs In0 h]
  have HX : Hid (∀ i, i < xs.length → A1 = some ⟨b, o, none⟩ ∧ ∃ Aw lw cw, w1.cell? ⟨b, o + i * 36 + 35, none⟩ = some (.slice Aw lw cw) ∧ wit (xs.getD i In0) = decide (0 < lw)) := fun i hi => by
    obtain ⟨hlt, s, u, hc, ⟨hs, hu, h32, _, _⟩⟩ := hr i hi
    obtain ⟨_, e33, _, e35⟩ := inV_at (x := xs.getD i In0) (s := s) (v := u) h32
    obtain ⟨Aw, cw, wb, wo, rfl, hAw, hww⟩ := Row.open hu
    exact ⟨hA (by omega), Aw, _, cw, by rw [hb1.cell (p := ⟨b, o + i * 36 + 35, none⟩) hlt]; exact hc 35 _ e35, rfl⟩
  rw [← hC]
  obtain ⟨n1, hn1⟩ : ∃ n, n = xs.length := ⟨_, rfl⟩
  rw [← hn1] at HX hc1 hw1 E1 E0 ⊢
  have hT1 : w1.cell? ⟨w.heap.size, 1, none⟩ = some (.slice A1 n1 c1) := by rw [hw1]; exact cell_new rfl rfl
  have Hb1 := Lib.hid hb1
  clear hr hA h1 hn1 hb1 hC
  go_enter Tryd.func15, Tryd.ntmps15
  go_upto_region 1 with fail
  rw [← hw1]
  generalize w.heap.size = tb at hT1 ⊢
  clear hw1
  go_wp2_with fail
  go_loop [3] (fun iv => ∃ i : Nat, i ≤ n1 ∧ iv = .int .i64 (i : Int) ∧ ∀ j, j < i → wit (xs.getD j In0) = false) (fun iv => n1 - (intOf iv).toNat)
  case atStart => exact ⟨0, Nat.zero_le _, rfl, fun j h => by omega⟩
  case round =>
    obtain ⟨i, hi, rfl, hj0⟩ := hrel
    have HJ := Lib.hid hj0
    clear hj0
    by_cases hi1 : i < n1
    · have hi2 : (i : Int) < (n1 : Int) := by omega
      obtain ⟨rfl, Aw, lw, cw, cd, hwt⟩ := HX.out i hi1
      have HWt := Lib.hid hwt
      clear hwt
      by_cases q : 0 < lw
      · have q1 : (0 : Int) < (lw : Int) := by omega
        go_wp2_with fail
        go_ret
        exact ⟨by rw [E1.out i hi1 (by rw [HWt.out]; simp [q])]; rfl, Hb1.out⟩
      · have q1 : ¬ (0 : Int) < (lw : Int) := by omega
        go_wp2_with fail
        go_round
        case rel => exact ⟨i + 1, by omega, by go_num, next_false (P := fun i => wit (xs.getD i In0)) HJ.out (by rw [HWt.out]; simpa using q)⟩
        case measure => simp [intOf]; omega
    · have hi2 : ¬ (i : Int) < (n1 : Int) := by omega
      go_wp2_with fail
      go_ret
      exact ⟨by rw [E0.out (fun m hm => HJ.out m (by omega))]; rfl, Hb1.out⟩
theorem rwit_any (t : TTx) (i o : Value) (w : World) (h : TxOk w w.heap.size t i o) : Calls Tryd.prog 15 #[txV t i o] w (BoolPost (witd t) w) := by
  obtain ⟨hi, ho, _, _⟩ := h
  have hi' := hi
  obtain ⟨A1, c1, rfl, _⟩ := hi
  obtain ⟨A2, c2, rfl, _⟩ := ho
  exact rwit_at t.ins A1 A2 c1 c2 _ _ _ _ w rfl hi'

open Go.RowKit
set_option linter.unusedVariables false
set_option linter.unusedSimpArgs false
set_option maxRecDepth 100000
theorem rdig_any (m n : Nat) (w : World) (hm : m ≤ 8) (hn : n < 18446744073709551616) : Calls Tryd.prog 49 #[.int .i64 (m : Int), .int .u64 (n : Int)] w (LaidPost (les n m) w) := by
  have K := Lib.hid (digits_any m n w hm hn)
  clear hm hn
  go_enter Tryd.func49, Tryd.ntmps49
  go_wp2_with (go_at_call 75; (refine K.out.mono ?_); rintro e w2 ⟨v, rfl, ho, hb⟩; have HO := Lib.hid ho; have HB := Lib.hid hb; clear ho hb; dsimp only)
  go_ret
  exact ⟨_, rfl, HO.out, HB.out⟩
theorem form_small {n : Nat} (h : n < 253) : form n = [BitVec.ofNat 8 n] := by
  unfold form fst wid
  simp [h, les]
theorem ob_one (w : World) (x : BitVec 8) : OB (w.alloc (.cells #[.int .u8 (Bt x)] 5)) w.heap.size (.slice (some ⟨w.heap.size, 0, none⟩) 1 1) [x] := by
  refine ⟨rfl, .inr ⟨w.heap.size, 1, #[.int .u8 (Bt x)], rfl, Nat.le_refl _, heap_alloc_new w _, by simp, by unfold maxLen; omega, rfl, rfl⟩⟩
theorem rcount_any (n : Nat) (w : World) (hn : n < 253) : Calls Tryd.prog 50 #[.int .u64 (n : Int)] w (LaidPost (form n) w) := by
  rw [form_small hn]
  obtain ⟨x, hx⟩ : ∃ x, x = BitVec.ofNat 8 n := ⟨_, rfl⟩
  rw [← hx]
  have hw : IntKind.u8.wrap (n : Int) = Bt x := by
    rw [hx, IntKind.wrap_u8']
    unfold Bt
    rw [BitVec.toNat_ofNat]
    omega
  have h1 : (n : Int) < 253 := by omega
  have HO := Lib.hid (ob_one w x)
  have HB : Hid (Below w.heap.size w (w.alloc (.cells #[.int .u8 (Bt x)] 5))) := (Below.refl _ _).alloc (Nat.le_refl _) _
  clear hx hn
  go_enter Tryd.func50, Tryd.ntmps50
  go_wp2_with fail
  go_ret
  exact ⟨_, rfl, HO.out, HB.out⟩
theorem rtext5_any (A : Option Addr) (L : List (BitVec 8)) (n cap : Nat) (w : World) (hn : L.length = n) (hR : Rd w w.heap.size A L) (hA : A = none → cap = 0) (h : n < 253) : Calls Tryd.prog 51 #[.slice A n cap] w (LaidPost (txt L) w) := by
  have K := Lib.hid (rcount_any n w h)
  have hw : IntKind.u64.wrap (n : Int) = (n : Int) := by rw [IntKind.wrap_u64]; omega
  have HR := Lib.hid hR
  have HA := Lib.hid hA
  have HN := Lib.hid hn
  have hfl : (form n).length = 1 := by rw [form_small h]; rfl
  have HF := Lib.hid hfl
  have HT : Hid (txt L = form n ++ L) := show txt L = form n ++ L by unfold txt; rw [hn]
  rw [HT.out]
  clear hR hA hn hfl
  go_enter Tryd.func51, Tryd.ntmps51
  go_wp2_with (first
    | (go_at_call 50; (refine K.out.mono ?_); rintro e w2 ⟨v, rfl, ho, hb⟩; have HO := Lib.hid ho; have HB := Lib.hid hb; have HS : Hid (Src22 w2 A L.length (vbs L)) := src_of_rd (HR.out.keep hb); clear ho hb; dsimp only)
    | (refine wpList_push (o := ⟨some 10, _, _, _, _, _⟩) rfl (.tmp 8) (.tmp 9) rfl rfl w.heap.size _ (form n) L rfl HO.out A n cap rfl HN.out.symm HS.out HA.out (by rw [HF.out, HN.out]; omega) HB.out HB.out.size (Nat.le_refl _) ?_; intro v3 w3 h1 h2 h3))
  go_ret
  exact ⟨_, rfl, h1, h2⟩

open Go.RowKit
set_option linter.unusedVariables false
set_option linter.unusedSimpArgs false
set_option maxRecDepth 100000
/-- All that lay in W1 is as it was; the call's row v has the bytes L. -/
structure LQ (W1 : World) (v : Value) (L : List (BitVec 8)) (wq : World) : Prop where
  sb : SB W1 wq
  ob : OB wq W1.heap.size v L
theorem LQ.next {W1 wq w2 : World} {v : Value} {L : List (BitVec 8)} (H : LQ W1 v L wq) (hb : Below wq.heap.size wq w2) : LQ W1 v L w2 := ⟨SB.next H.sb hb, OB.below (B' := 0) H.ob hb⟩
theorem own_ne' {w : World} {B cb g T : Nat} {v : Value} {vs : List Value} {L : List (BitVec 8)} (h : OB w B v L) (hb : Blk w cb T vs) (hT : T ≠ 5) (hg : v.ownBlock = some g) : g ≠ cb := by
  intro e
  subst e
  rcases h.2 with ⟨rfl, _⟩ | ⟨g', cap, cur, rfl, _, hgg, _⟩
  · simp [Value.ownBlock] at hg
  · have : g' = g := by simpa [Value.ownBlock] using hg
    subst this
    unfold Blk at hb
    rw [hgg] at hb
    simp at hb
    exact hT hb.2.symm
/-- An append to the call's own row; blocks of other types stay. -/
theorem wpList_pushT {w W1 : World} {ops : Array Oper} {rest : List Oper} {o : Oper} {a : Act} {Q : Exit → Act → World → Prop} (hgd : o.guard = none) (s x : Operand) (ho : o.op = .call { callee := .builtin .append, args := #[s, x], argTypes := #[27, 27] }) (hty : o.type = 27)
    (v : Value) (L M : List (BitVec 8)) (hs : a.eval s = v) (H : LQ W1 v L w) (A : Option Addr) (m c : Nat) (hx : a.eval x = .slice A m c) (hm : m = M.length) (hsr : Src22 w A M.length (vbs M)) (hc : A = none → c = 0) (hb : L.length + M.length ≤ 140737488355328)
    (h : ∀ v' w', LQ W1 v' (L ++ M) w' → w.heap.size ≤ w'.heap.size → (∀ cb T vs, T ≠ 5 → Blk w cb T vs → Blk w' cb T vs) → wpList Tryd.prog ops Q rest (a.put o.dst v') w') : wpList Tryd.prog ops Q (o :: rest) a w := by
  subst hm
  exact wpList_app hgd s x ho hty W1.heap.size v L.length (vbs L) hs H.ob A M.length c (vbs M) hx hsr hc hb H.sb.size fun v' w' h2 h3 => by
    have hA := OB.app H.ob H.sb H.sb.size (Nat.le_refl _) h2 h3
    exact h v' w' ⟨hA.2, hA.1⟩ h3.size fun cb T vs hT hbk => hbk.grown h3 (fun e => own_ne' H.ob hbk hT e.symm rfl)
theorem rdig_w (m n : Nat) (w : World) (hm : m ≤ 8) (hn : n < 18446744073709551616) : Calls Tryd.prog 49 #[.int .i64 (m : Int), .int .u64 (n : Int)] w fun e w' => ∃ A c, e = .returned (.slice A m c) ∧ Src22 w' A (les n m).length (vbs (les n m)) ∧ (A = none → c = 0) ∧ Below w.heap.size w w' :=
  (rdig_any m n w hm hn).mono fun e w' ⟨v, he, ho, hb⟩ => by
    obtain ⟨A, c, rfl, hr, hc⟩ := slice_form ho
    have hs := src_of_rd hr
    rw [les_len] at he
    exact ⟨A, c, he, hs, hc, hb⟩
theorem rcount_w (n : Nat) (w : World) (hn : n < 253) : Calls Tryd.prog 50 #[.int .u64 (n : Int)] w fun e w' => ∃ A c, e = .returned (.slice A 1 c) ∧ Src22 w' A (form n).length (vbs (form n)) ∧ (A = none → c = 0) ∧ Below w.heap.size w w' :=
  (rcount_any n w hn).mono fun e w' ⟨v, he, ho, hb⟩ => by
    obtain ⟨A, c, rfl, hr, hc⟩ := slice_form ho
    have hs := src_of_rd hr
    have : (form n).length = 1 := by rw [form_small hn]; rfl
    rw [this] at he
    exact ⟨A, c, he, hs, hc, hb⟩
theorem rtext5_w (A : Option Addr) (L : List (BitVec 8)) (n m cap : Nat) (w : World) (hn : L.length = n) (hm : (txt L).length = m) (hR : Rd w w.heap.size A L) (hA : A = none → cap = 0) (h : n < 253) : Calls Tryd.prog 51 #[.slice A n cap] w fun e w' => ∃ A2 c, e = .returned (.slice A2 m c) ∧ Src22 w' A2 (txt L).length (vbs (txt L)) ∧ (A2 = none → c = 0) ∧ Below w.heap.size w w' :=
  (rtext5_any A L n cap w hn hR hA h).mono fun e w' ⟨v, he, ho, hb⟩ => by
    obtain ⟨A, c, rfl, hr, hc⟩ := slice_form ho
    have hs := src_of_rd hr
    rw [hm] at he
    exact ⟨A, c, he, hs, hc, hb⟩
theorem sl_src {W1 wq : World} {v : Value} {L : List (BitVec 8)} (h : Sl W1 W1.heap.size v L) (hs : SB W1 wq) : ∃ A c, v = .slice A L.length c ∧ Rd wq wq.heap.size A L ∧ (A = none → c = 0) := by
  obtain ⟨A, c, rfl, hr, _, _, hc⟩ := h
  exact ⟨A, c, rfl, (hr.keep' hs (Nat.le_refl _)).up hs.size, hc⟩
/-- The zero value of an input. -/
def zIn : List Value := inV ⟨Z32, 0, [], 0, []⟩ (.slice none 0 0) (.slice none 0 0)
theorem zero57 : ∀ w, (zeroValue 57).run Tryd.prog w = .ok (.agg zIn.toArray) w := fun _ => by kernel_rfl
theorem inV_len5 {x : TIn} {s u : Value} (h : x.tx.length = 32) : (inV x s u).length = 36 := by simp [inV, vbs_len, h]
theorem info57x {x : TIn} {s u : Value} (h : x.tx.length = 32) : (Tryd.prog.info? 57).map (·.size) = some (inV x s u).length := by rw [inV_len5 h]; kernel_rfl
theorem info57v {x : TIn} {s u : Value} (h : x.tx.length = 32) : (Tryd.prog.info? 57).map (·.size) = some (inV x s u).toArray.size := by rw [List.size_toArray]; exact info57x h
theorem inV_one5 {x : TIn} {A1 A2 : Option Addr} {n1 c1 n2 c2 : Nat} : ∀ v ∈ inV x (.slice A1 n1 c1) (.slice A2 n2 c2), v.oneCell' = true := by
  intro v hv
  simp only [inV, List.mem_append, List.mem_cons, List.not_mem_nil, or_false] at hv
  rcases hv with hv | rfl | rfl | rfl | rfl
  · exact vbs_one _ v hv
  all_goals rfl
theorem in_box (w : World) {x : TIn} {s u : Value} (h : x.tx.length = 32) : Blk ((w.alloc (.cells zIn.toArray 57)).setCells w.heap.size 0 (inV x s u)) w.heap.size 57 (inV x s u) ∧ Below w.heap.size w ((w.alloc (.cells zIn.toArray 57)).setCells w.heap.size 0 (inV x s u)) := by
  have hB0 := Blk.new w 57 zIn.toArray
  rw [List.toList_toArray] at hB0
  exact ⟨hB0.setCells _ (by rw [inV_len5 h]; rfl), below_setCells (Nat.le_refl _) _ _ _ ((Below.refl _ _).alloc (Nat.le_refl _) _)⟩
theorem in_there (w : World) {x : TIn} {s u : Value} (h : x.tx.length = 32) : (w.alloc (.cells zIn.toArray 57)).there w.heap.size 0 (inV x s u).toArray.size := by
  have hB0 := Blk.new w 57 zIn.toArray
  rw [List.toList_toArray] at hB0
  have := hB0.there
  rw [show zIn.length = 36 from rfl] at this
  have e : (inV x s u).toArray.size = 36 := by rw [List.size_toArray]; exact inV_len5 h
  rw [e]
  exact this

open Go.RowKit
set_option linter.unusedVariables false
set_option linter.unusedSimpArgs false
set_option maxRecDepth 100000
theorem SB.range {W0 w : World} (h : SB W0 w) {b o : Nat} {vs : List Value} (hr : W0.rangeAt b o vs) (hb : b < W0.heap.size) : w.rangeAt b o vs := range_keep hr h hb
theorem sl_rd {W1 wq : World} {A : Option Addr} {n c : Nat} {L : List (BitVec 8)} (h : Sl W1 W1.heap.size (.slice A n c) L) (hs : SB W1 wq) : Rd wq wq.heap.size A L ∧ (A = none → c = 0) := by
  obtain ⟨A', c', e, hr, _, _, hc⟩ := h
  injection e with e1 e2 e3
  subst e1 e3
  exact ⟨(hr.keep' hs (Nat.le_refl _)).up hs.size, hc⟩
def uvl (y : TOut) : Nat := u64 y.vl
theorem outB_uv (y : TOut) : outB y = les (uvl y) 8 ++ txt y.sc := rfl
theorem uvl_lt (y : TOut) : uvl y < 18446744073709551616 := by unfold uvl u64; omega
theorem uvl_wrap (y : TOut) : IntKind.u64.wrap y.vl = (uvl y : Int) := by rw [IntKind.wrap_u64]; unfold uvl u64; omega
theorem rdig4_w (n : Nat) (w : World) (hn : n < 4294967296) : Calls Tryd.prog 49 #[.int .i64 4, .int .u64 (n : Int)] w fun e w' => ∃ A c, e = .returned (.slice A 4 c) ∧ Src22 w' A (les n 4).length (vbs (les n 4)) ∧ (A = none → c = 0) ∧ Below w.heap.size w w' := rdig_w 4 n w (by omega) (by omega)
theorem rdig8_w (n : Nat) (w : World) (hn : n < 18446744073709551616) : Calls Tryd.prog 49 #[.int .i64 8, .int .u64 (n : Int)] w fun e w' => ∃ A c, e = .returned (.slice A 8 c) ∧ Src22 w' A (les n 8).length (vbs (les n 8)) ∧ (A = none → c = 0) ∧ Below w.heap.size w w' := rdig_w 8 n w (by omega) hn
theorem rdig4_any (n : Nat) (w : World) (hn : n < 4294967296) : Calls Tryd.prog 49 #[.int .i64 4, .int .u64 (n : Int)] w (LaidPost (les n 4) w) := rdig_any 4 n w (by omega) (by omega)
theorem src_lit (w : World) : Src22 (w.alloc (.cells #[.int .u8 0, .int .u8 1] 5)) (some ⟨w.heap.size, 0, none⟩) [(0 : BitVec 8), 1].length (vbs [0, 1]) := src_of_blk (R := [0, 1]) (Blk.new w 5 #[.int .u8 0, .int .u8 1])
end Go.Proofs.YtnkkhmgplpkjbaaDoor
