/- What the document's own same and the law package's large return. -/
import Derived.Test.YtnkkhmgplpkjbaaDoorMa
import Derived.Test.YtnkkhmgplpkjbaaDoorLk
import Derived.Outline
namespace Go.Proofs.YtnkkhmgplpkjbaaDoor
open Go.RowKit
set_option linter.unusedVariables false
set_option linter.unusedSimpArgs false
set_option maxRecDepth 100000
theorem tol_data (s : ByteArray) : s.toList = s.data.toList := by
  have key : ∀ (n i : Nat) (r : List UInt8), s.size - i = n → ByteArray.toList.loop s i r = r.reverse ++ s.data.toList.drop i := by
    intro n
    induction n with
    | zero =>
      intro i r h
      unfold ByteArray.toList.loop
      rw [if_neg (by omega), List.drop_eq_nil_of_le (by rw [Array.length_toList]; show s.size ≤ i; omega)]
      simp
    | succ n ih =>
      intro i r h
      unfold ByteArray.toList.loop
      rw [if_pos (by omega), ih (i + 1) _ (by omega)]
      have hi : i < s.data.toList.length := by rw [Array.length_toList]; show i < s.size; omega
      rw [List.drop_eq_getElem_cons hi]
      have : s.get! i = s.data.toList[i] := by
        show s.data[i]! = _
        have h2 : i < s.data.size := by rw [Array.length_toList] at hi; exact hi
        rw [getElem!_pos s.data i h2]; simp
      simp [this]
  have := key (s.size - 0) 0 [] rfl
  simpa [ByteArray.toList] using this
theorem strB_list (L : List (BitVec 8)) : (strB L).toList = L.map UInt8.ofBitVec := by
  rw [tol_data]
  have key : ∀ (L : List (BitVec 8)) (r : ByteArray), ((L.map Bt).foldl (fun r n => r.push (UInt8.ofNat n.toNat)) r).data.toList = r.data.toList ++ L.map UInt8.ofBitVec := by
    intro L
    induction L with
    | nil => intro r; simp
    | cons x l ih =>
      intro r
      rw [List.map_cons, List.foldl_cons, ih]
      have e : UInt8.ofNat (Bt x).toNat = UInt8.ofBitVec x := by
        unfold Bt
        rw [Int.toNat_natCast]
        apply UInt8.toBitVec_inj.1
        simp
      rw [e]
      simp [ByteArray.push]
  have := key L ByteArray.empty
  simpa [strB] using this
theorem strB_eq {X Y : List (BitVec 8)} : (strB X).toList = (strB Y).toList ↔ X = Y := by
  rw [strB_list, strB_list]
  constructor
  · intro h
    have := congrArg (List.map UInt8.toBitVec) h
    have e : UInt8.toBitVec ∘ UInt8.ofBitVec = (id : BitVec 8 → BitVec 8) := funext fun x => rfl
    simpa [e] using this
  · rintro rfl; rfl
theorem strB_beq (X Y : List (BitVec 8)) : ((strB X).toList == (strB Y).toList) = decide (X = Y) := by
  by_cases h : X = Y
  · subst h; simp
  · have : ¬ (strB X).toList = (strB Y).toList := fun e => h (strB_eq.1 e)
    simp [h, this]
/-- A bool is told, and nothing that was has changed. -/
def SomePost (w : World) (e : Ending) (w' : World) : Prop := ∃ b, e = .returned (.bool b) ∧ Below w.heap.size w w'
set_option maxHeartbeats 8000000 in
theorem large_at (xs : List TIn) (ys : List TOut) (A1 A2 : Option Addr) (c1 c2 : Nat) (n1 n2 : Nat) (V Lk : Int) (w : World) (hn1 : n1 = xs.length) (hn2 : n2 = ys.length) (h1 : Is w w.heap.size (.slice A1 n1 c1) xs) (h2 : Os w w.heap.size (.slice A2 n2 c2) ys) :
    Calls Tryd.prog 6 #[.agg #[.int .u32 V, .slice A1 n1 c1, .slice A2 n2 c2, .int .u32 Lk]] w (SomePost w) := by
  obtain ⟨A, c, b, o, e1, hA, hr⟩ := Row.open h1
  obtain ⟨A', c', b2, o2, e2, hA2, hr2⟩ := Row.open h2
  have hc1 : n1 ≤ 9223372036854775807 := by obtain ⟨_, _, e, h3, h4, _⟩ := h1; cases e; omega
  have hc2 : n2 ≤ 9223372036854775807 := by obtain ⟨_, _, e, h3, h4, _⟩ := h2; cases e; omega
  subst hn1 hn2
  cases e1
  cases e2
  obtain ⟨w1, hw1⟩ : ∃ w1, w1 = w.alloc (.cells #[.int .u32 V, .slice A1 xs.length c1, .slice A2 ys.length c2, .int .u32 Lk] 26) := ⟨_, rfl⟩
  have hb1 : Below w.heap.size w w1 := by rw [hw1]; exact (Below.refl _ _).alloc (Nat.le_refl _) _
  have HX : Hid (∀ i, i < xs.length → A1 = some ⟨b, o, none⟩ ∧ ∃ As ls cs Aw lw cw, w1.cell? ⟨b, o + i * 36 + 33, none⟩ = some (.slice As ls cs) ∧ w1.cell? ⟨b, o + i * 36 + 35, none⟩ = some (.slice Aw lw cw) ∧ ls ≤ 9223372036854775807 ∧ lw ≤ 9223372036854775807 ∧
      ∀ k, k < lw → ∃ wb wo At lt ct, Aw = some ⟨wb, wo, none⟩ ∧ w1.cell? ⟨wb, wo + k, none⟩ = some (.slice At lt ct) ∧ lt ≤ 9223372036854775807) := fun i hi => by
    obtain ⟨hlt, s, u, hc, ⟨hs, hu, h32, _, _⟩⟩ := hr i hi
    obtain ⟨_, e33, _, e35⟩ := inV_at (x := xs.getD i In0) (s := s) (v := u) h32
    obtain ⟨As, cs, rfl, _, _, _, _⟩ := hs
    obtain ⟨Aw, cw, wb, wo, rfl, hAw, hww⟩ := Row.open hu
    have hm : (xs.getD i In0).wt.length ≤ 9223372036854775807 := by obtain ⟨_, _, e, h3, h4, _⟩ := hu; cases e; omega
    refine ⟨hA (by omega), As, _, cs, Aw, _, cw, by rw [hb1.cell (p := ⟨b, o + i * 36 + 33, none⟩) hlt]; exact hc 33 _ e33, by rw [hb1.cell (p := ⟨b, o + i * 36 + 35, none⟩) hlt]; exact hc 35 _ e35, by omega, hm, fun k hk => ?_⟩
    obtain ⟨hwl, t, hct, At, ct, rfl, _, _, _, _⟩ := hww k hk
    rw [Nat.mul_one] at hct
    exact ⟨wb, wo, At, _, ct, hAw (by omega), by rw [hb1.cell (p := ⟨wb, wo + k, none⟩) hwl]; exact hct, by omega⟩
  have HY : Hid (∀ i, i < ys.length → A2 = some ⟨b2, o2, none⟩ ∧ ∃ As ls cs, w1.cell? ⟨b2, o2 + i * 2 + 1, none⟩ = some (.slice As ls cs) ∧ ls ≤ 9223372036854775807) := fun i hi => by
    obtain ⟨hlt, s, hc, hs, _, _⟩ := hr2 i hi
    obtain ⟨As, cs, rfl, _, _, _, _⟩ := hs
    exact ⟨hA2 (by omega), As, _, cs, by rw [hb1.cell (p := ⟨b2, o2 + i * 2 + 1, none⟩) hlt]; exact hc 1 _ rfl, by omega⟩
  obtain ⟨n1, hn1⟩ : ∃ n, n = xs.length := ⟨_, rfl⟩
  obtain ⟨n2, hn2⟩ : ∃ n, n = ys.length := ⟨_, rfl⟩
  rw [← hn1] at HX hc1 hw1 ⊢
  rw [← hn2] at HY hc2 hw1 ⊢
  have hT1 : w1.cell? ⟨w.heap.size, 1, none⟩ = some (.slice A1 n1 c1) := by rw [hw1]; exact cell_new rfl rfl
  have hT2 : w1.cell? ⟨w.heap.size, 2, none⟩ = some (.slice A2 n2 c2) := by rw [hw1]; exact cell_new rfl rfl
  have Hb1 := Lib.hid hb1
  clear hr hr2 hA hA2 h1 h2 hn1 hn2 hb1
  go_enter Tryd.func6, Tryd.ntmps6
  go_upto_region 1 with fail
  rw [← hw1]
  generalize w.heap.size = tb at hT1 hT2 ⊢
  clear hw1
  go_wp2_with fail
  go_loop [3] (fun iv => ∃ i : Nat, i ≤ n1 ∧ iv = .int .i64 (i : Int)) (fun iv => n1 - (intOf iv).toNat)
  case atStart => exact ⟨0, Nat.zero_le _, rfl⟩
  case round =>
    obtain ⟨i, hi, rfl⟩ := hrel
    by_cases hi1 : i < n1
    · have hi2 : (i : Int) < (n1 : Int) := by omega
      by_cases hi5 : i < 50
      · have hi6 : (i : Int) < 50 := by omega
        obtain ⟨rfl, As, ls, cs, Aw, lw, cw, cc, cd, hls, hlw, hk⟩ := HX.out i hi1
        have HK := Lib.hid hk
        clear hk
        by_cases q : 400 < ls
        · have q1 : (400 : Int) < (ls : Int) := by omega
          go_wp2_with fail
          go_ret
          exact ⟨_, rfl, Hb1.out⟩
        · have q1 : ¬ (400 : Int) < (ls : Int) := by omega
          by_cases q2 : 40 < lw
          · have q3 : (40 : Int) < (lw : Int) := by omega
            go_wp2_with fail
            go_ret
            exact ⟨_, rfl, Hb1.out⟩
          · have q3 : ¬ (40 : Int) < (lw : Int) := by omega
            go_wp2_with fail
            go_loop [4] (fun kv => ∃ k : Nat, k ≤ lw ∧ kv = .int .i64 (k : Int)) (fun kv => lw - (intOf kv).toNat)
            case atStart => exact ⟨0, Nat.zero_le _, rfl⟩
            case round =>
              obtain ⟨k, hk, rfl⟩ := hrel
              by_cases hk1 : k < lw
              · have hk2 : (k : Int) < (lw : Int) := by omega
                obtain ⟨wb, wo, At, lt, ct, rfl, ce, hlt⟩ := HK.out k hk1
                by_cases q4 : 400 < lt
                · have q5 : (400 : Int) < (lt : Int) := by omega
                  go_wp2_with fail
                  go_ret
                  exact ⟨_, rfl, Hb1.out⟩
                · have q5 : ¬ (400 : Int) < (lt : Int) := by omega
                  go_wp2_with fail
                  go_round
                  case rel => exact ⟨k + 1, by omega, by go_num⟩
                  case measure => simp [intOf]; omega
              · have hk2 : ¬ (k : Int) < (lw : Int) := by omega
                go_wp2_with fail
                go_round
                case rel => exact ⟨i + 1, by omega, by go_num⟩
                case measure => simp [intOf]; omega
      · have hi6 : ¬ (i : Int) < 50 := by omega
        go_wp2_with fail
        go_loop [5] (fun iv => ∃ i : Nat, i ≤ n2 ∧ iv = .int .i64 (i : Int)) (fun iv => n2 - (intOf iv).toNat)
        case atStart => exact ⟨0, Nat.zero_le _, rfl⟩
        case round =>
          obtain ⟨j, hj, rfl⟩ := hrel
          by_cases hj1 : j < n2
          · have hj2 : (j : Int) < (n2 : Int) := by omega
            by_cases hj5 : j < 50
            · have hj6 : (j : Int) < 50 := by omega
              obtain ⟨rfl, As, ls, cs, cc, hls⟩ := HY.out j hj1
              by_cases q : 400 < ls
              · have q1 : (400 : Int) < (ls : Int) := by omega
                go_wp2_with fail
                go_ret
                exact ⟨_, rfl, Hb1.out⟩
              · have q1 : ¬ (400 : Int) < (ls : Int) := by omega
                go_wp2_with fail
                go_round
                case rel => exact ⟨j + 1, by omega, by go_num⟩
                case measure => simp [intOf]; omega
            · have hj6 : ¬ (j : Int) < 50 := by omega
              by_cases q1 : 40 < n1
              · have q2 : (40 : Int) < (n1 : Int) := by omega
                go_wp2_with fail
                go_ret
                exact ⟨_, rfl, Hb1.out⟩
              · exfalso; omega
          · have hj2 : ¬ (j : Int) < (n2 : Int) := by omega
            by_cases q1 : 40 < n1
            · have q2 : (40 : Int) < (n1 : Int) := by omega
              go_wp2_with fail
              go_ret
              exact ⟨_, rfl, Hb1.out⟩
            · exfalso; omega
    · have hi2 : ¬ (i : Int) < (n1 : Int) := by omega
      go_wp2_with fail
      go_loop [5] (fun iv => ∃ i : Nat, i ≤ n2 ∧ iv = .int .i64 (i : Int)) (fun iv => n2 - (intOf iv).toNat)
      case atStart => exact ⟨0, Nat.zero_le _, rfl⟩
      case round =>
        obtain ⟨j, hj, rfl⟩ := hrel
        by_cases hj1 : j < n2
        · have hj2 : (j : Int) < (n2 : Int) := by omega
          by_cases hj5 : j < 50
          · have hj6 : (j : Int) < 50 := by omega
            obtain ⟨rfl, As, ls, cs, cc, hls⟩ := HY.out j hj1
            by_cases q : 400 < ls
            · have q1 : (400 : Int) < (ls : Int) := by omega
              go_wp2_with fail
              go_ret
              exact ⟨_, rfl, Hb1.out⟩
            · have q1 : ¬ (400 : Int) < (ls : Int) := by omega
              go_wp2_with fail
              go_round
              case rel => exact ⟨j + 1, by omega, by go_num⟩
              case measure => simp [intOf]; omega
          · have hj6 : ¬ (j : Int) < 50 := by omega
            by_cases q1 : 40 < n1
            · have q2 : (40 : Int) < (n1 : Int) := by omega
              go_wp2_with fail
              go_ret
              exact ⟨_, rfl, Hb1.out⟩
            · have q2 : ¬ (40 : Int) < (n1 : Int) := by omega
              go_wp2_with fail
              go_ret
              exact ⟨_, rfl, Hb1.out⟩
        · have hj2 : ¬ (j : Int) < (n2 : Int) := by omega
          by_cases q1 : 40 < n1
          · have q2 : (40 : Int) < (n1 : Int) := by omega
            go_wp2_with fail
            go_ret
            exact ⟨_, rfl, Hb1.out⟩
          · have q2 : ¬ (40 : Int) < (n1 : Int) := by omega
            go_wp2_with fail
            go_ret
            exact ⟨_, rfl, Hb1.out⟩
end Go.Proofs.YtnkkhmgplpkjbaaDoor
