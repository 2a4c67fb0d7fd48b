/- Whether two lists of hashes are the same, and whether unlike texts of two lists have one hash: what the law package's same and clash return. -/
import Derived.Test.YtihbmahjdmfjpaaDoorFr
import Derived.Outline
import Derived.StillTailTactics
namespace Go.Proofs.YtihbmahjdmfjpaaDoor
open Go.RowKit
set_option linter.unusedVariables false
set_option linter.unusedSimpArgs false
set_option maxRecDepth 100000
variable {tw : List (BitVec 8) → List (BitVec 8)}
theorem tol_data (s : ByteArray) : s.toList = s.data.toList := by
  have key : ∀ (n i : Nat) (r : List UInt8), s.size - i = n → ByteArray.toList.loop s i r = r.reverse ++ s.data.toList.drop i := by
    intro n
    induction n with
    | zero =>
      intro i r h
      unfold ByteArray.toList.loop
      rw [if_neg (by omega), List.drop_eq_nil_of_le (by rw [Array.length_toList]; show s.size ≤ i; omega)]
      simp
    | succ n ih =>
      intro i r h
      unfold ByteArray.toList.loop
      rw [if_pos (by omega), ih (i + 1) _ (by omega)]
      have hi : i < s.data.toList.length := by rw [Array.length_toList]; show i < s.size; omega
      rw [List.drop_eq_getElem_cons hi]
      have : s.get! i = s.data.toList[i] := by
        show s.data[i]! = _
        have h2 : i < s.data.size := by rw [Array.length_toList] at hi; exact hi
        rw [getElem!_pos s.data i h2]; simp
      simp [this]
  have := key (s.size - 0) 0 [] rfl
  simpa [ByteArray.toList] using this
theorem strB_list (L : List (BitVec 8)) : (strB L).toList = L.map UInt8.ofBitVec := by
  rw [tol_data]
  have key : ∀ (L : List (BitVec 8)) (r : ByteArray), ((L.map Bt).foldl (fun r n => r.push (UInt8.ofNat n.toNat)) r).data.toList = r.data.toList ++ L.map UInt8.ofBitVec := by
    intro L
    induction L with
    | nil => intro r; simp
    | cons x l ih =>
      intro r
      rw [List.map_cons, List.foldl_cons, ih]
      have e : UInt8.ofNat (Bt x).toNat = UInt8.ofBitVec x := by
        unfold Bt
        rw [Int.toNat_natCast]
        apply UInt8.toBitVec_inj.1
        simp
      rw [e]
      simp [ByteArray.push]
  have := key L ByteArray.empty
  simpa [strB] using this
theorem strB_eq {X Y : List (BitVec 8)} : (strB X).toList = (strB Y).toList ↔ X = Y := by
  rw [strB_list, strB_list]
  constructor
  · intro h
    have := congrArg (List.map UInt8.toBitVec) h
    have e : UInt8.toBitVec ∘ UInt8.ofBitVec = (id : BitVec 8 → BitVec 8) := funext fun x => rfl
    simpa [e] using this
  · rintro rfl; rfl
theorem strB_beq (X Y : List (BitVec 8)) : ((strB X).toList == (strB Y).toList) = decide (X = Y) := by
  by_cases h : X = Y
  · subst h; simp
  · have : ¬ (strB X).toList = (strB Y).toList := fun e => h (strB_eq.1 e)
    simp [h, this]
theorem conv54 {w : World} {A : Option Addr} {L : List (BitVec 8)} {n c B : Nat} (h : Rd w B A L) (hn : n = L.length) : (convert 54 9 (.slice A n c)).run Tryd.prog w = .ok (.string (strB L)) w :=
  run_conv_slice w Tryd.underlying54 Tryd.underlying5 Tryd.underlying9 A L n c hn B h
theorem ext_getD {L M : List (List (BitVec 8))} (hl : L.length = M.length) (h : ∀ j, j < L.length → L.getD j [] = M.getD j []) : L = M := by
  apply List.ext_getElem hl
  intro j h1 h2
  have := h j h1
  simpa [List.getD, h1, h2] using this
def SaR (L M : List (List (BitVec 8))) (n : Nat) (w : World) (iv : Value) (wr : World) : Prop :=
  ∃ k : Nat, k ≤ n ∧ iv = .int .i64 (k : Int) ∧ Below w.heap.size w wr ∧ ∀ j, j < k → L.getD j [] = M.getD j []
theorem range_below {w w' : World} {b p : Nat} {vs : List Value} (h : w.rangeAt b p vs) (hb : Below w.heap.size w w') (hl : b < w.heap.size) : w'.rangeAt b p vs := fun j u hj => (hb.cell (p := ⟨b, p + j, none⟩) hl).trans (h j u hj)
set_option maxHeartbeats 4000000 in
theorem same_any (A A' : Option Addr) (n c n' c' : Nat) (L M : List (List (BitVec 8))) (w : World) (hL : RdN 32 w A n c L) (hM : RdN 32 w A' n' c' M) (hn : n ≤ 1000000) :
    Calls Tryd.prog 28 #[.slice A n c, .slice A' n' c'] w (VPost (.bool (decide (L = M))) w) := by
  by_cases hnn : n = n'
  · subst hnn
    have HL := Lib.hid hL
    have HM := Lib.hid hM
    clear hL hM
    obtain ⟨q, hq⟩ : ∃ q, q = decide (L = M) := ⟨_, rfl⟩
    rw [← hq]
    have HQ := Lib.hid hq
    clear hq
    go_enter Tryd.func28, Tryd.ntmps28
    go_wp2_with fail
    go_loopw [5] (fun iv wr => SaR L M n w iv wr) (fun iv _ => (n - intOf iv).toNat)
    case atStart => exact ⟨0, Nat.zero_le _, rfl, Below.refl _ _, fun j hj => absurd hj (Nat.not_lt_zero j)⟩
    case round =>
      obtain ⟨k, hk, rfl, hb, hpre⟩ := hrel
      have HB := Lib.hid hb
      have HP := Lib.hid hpre
      clear hb hpre
      by_cases hlt : k < n
      · have hlt' : (k : Int) < (n : Int) := by omega
        obtain ⟨b, o, rfl, hbl, hp1⟩ := HL.out.pick (by omega) (by omega)
        obtain ⟨b', o', rfl, hbl', hp2⟩ := HM.out.pick (by omega) (by omega)
        obtain ⟨X, hX⟩ : ∃ X, X = L.getD k [] := ⟨_, rfl⟩
        obtain ⟨Y, hY⟩ : ∃ Y, Y = M.getD k [] := ⟨_, rfl⟩
        have rX := (hp1 k hlt).1
        have rY := (hp2 k hlt).1
        have hX32 : X.length = 32 := by rw [hX]; exact (hp1 k hlt).2
        have hY32 : Y.length = 32 := by rw [hY]; exact (hp2 k hlt).2
        rw [← hX] at rX
        rw [← hY] at rY
        have RX := Lib.hid rX
        have RY := Lib.hid rY
        have HX := Lib.hid hX
        have HY := Lib.hid hY
        have IX := Lib.hid (i25' (vs := vbs X) (by rw [vbs_len]; exact hX32))
        have IY := Lib.hid (i25' (vs := vbs Y) (by rw [vbs_len]; exact hY32))
        have hnq := neq25 X Y hX32 hY32
        obtain ⟨t, ht⟩ : ∃ t, t = !decide (X = Y) := ⟨_, rfl⟩
        rw [← ht] at hnq
        have Ht := Lib.hid ht
        have hSd := Lib.hid (show SBw w wr.drew from Below.drew HB.out)
        clear hX hY hX32 hY32 rX rY hp1 hp2 ht
        go_upto_region 6 with fail
        refine wp_calm ?_
        refine wp_region_but (z := 999) (SBw w) (by kernel_rfl) ?_
        have hS : (SBw w) wr.drew := hSd.out
        refine AnyBut.takeE (i := 0) (v := ?_) rfl (by kernel_rfl) (by kernel_rfl) (by kernel_rfl) (by kernel_rfl) (fun _ _ _ h => h) (Or.inl ⟨by rfl, ?_⟩) hS ?_
        rotate_left
        · (intro wq hq; go_simp; try with_reducible rfl)
        try simp only [Act.put, List.setIfInBounds_toArray, List.set_cons_zero, List.set_cons_succ, List.getElem_toArray, List.getElem_cons_zero, List.getElem_cons_succ]
        refine AnyBut.takeE (i := 1) (v := ?_) rfl (by kernel_rfl) (by kernel_rfl) (by kernel_rfl) (by kernel_rfl) (fun _ _ _ h => h) (Or.inl ⟨by rfl, ?_⟩) hS ?_
        rotate_left
        · (intro wq hq; go_simp; try with_reducible rfl)
        try simp only [Act.put, List.setIfInBounds_toArray, List.set_cons_zero, List.set_cons_succ, List.getElem_toArray, List.getElem_cons_zero, List.getElem_cons_succ]
        refine AnyBut.takeE (i := 2) (v := .pointer (some ⟨b, o + k * 32, none⟩)) rfl (by kernel_rfl) (by kernel_rfl) (by kernel_rfl) (by kernel_rfl) (fun _ _ _ h => h) (Or.inl ⟨by rfl, ?_⟩) hS ?_
        · (intro wq hq; go_simp)
        try simp only [Act.put, List.setIfInBounds_toArray, List.set_cons_zero, List.set_cons_succ, List.getElem_toArray, List.getElem_cons_zero, List.getElem_cons_succ]
        refine AnyBut.takeE (i := 3) (v := .agg (vbs X).toArray) rfl (by kernel_rfl) (by kernel_rfl) (by kernel_rfl) (by kernel_rfl) (fun _ _ _ h => h) ?_ hS ?_
        · exact yieldsIf_load_mid (by rfl) 25 (.tmp 19) rfl (b) (o + k * 32) rfl (vbs X) _ (fun _ h => range_below RX.out h hbl) Tryd.underlying25 rfl IX.out
        try simp only [Act.put, List.setIfInBounds_toArray, List.set_cons_zero, List.set_cons_succ, List.getElem_toArray, List.getElem_cons_zero, List.getElem_cons_succ]
        refine AnyBut.takeE (i := 4) (v := ?_) rfl (by kernel_rfl) (by kernel_rfl) (by kernel_rfl) (by kernel_rfl) (fun _ _ _ h => h) (Or.inl ⟨by rfl, ?_⟩) hS ?_
        rotate_left
        · (intro wq hq; go_simp; try with_reducible rfl)
        try simp only [Act.put, List.setIfInBounds_toArray, List.set_cons_zero, List.set_cons_succ, List.getElem_toArray, List.getElem_cons_zero, List.getElem_cons_succ]
        refine AnyBut.takeE (i := 5) (v := ?_) rfl (by kernel_rfl) (by kernel_rfl) (by kernel_rfl) (by kernel_rfl) (fun _ _ _ h => h) (Or.inl ⟨by rfl, ?_⟩) hS ?_
        rotate_left
        · (intro wq hq; go_simp; try with_reducible rfl)
        try simp only [Act.put, List.setIfInBounds_toArray, List.set_cons_zero, List.set_cons_succ, List.getElem_toArray, List.getElem_cons_zero, List.getElem_cons_succ]
        refine AnyBut.takeE (i := 6) (v := .pointer (some ⟨b', o' + k * 32, none⟩)) rfl (by kernel_rfl) (by kernel_rfl) (by kernel_rfl) (by kernel_rfl) (fun _ _ _ h => h) (Or.inl ⟨by rfl, ?_⟩) hS ?_
        · (intro wq hq; go_simp)
        try simp only [Act.put, List.setIfInBounds_toArray, List.set_cons_zero, List.set_cons_succ, List.getElem_toArray, List.getElem_cons_zero, List.getElem_cons_succ]
        refine AnyBut.takeE (i := 7) (v := .agg (vbs Y).toArray) rfl (by kernel_rfl) (by kernel_rfl) (by kernel_rfl) (by kernel_rfl) (fun _ _ _ h => h) ?_ hS ?_
        · exact yieldsIf_load_mid (by rfl) 25 (.tmp 23) rfl (b') (o' + k * 32) rfl (vbs Y) _ (fun _ h => range_below RY.out h hbl') Tryd.underlying25 rfl IY.out
        try simp only [Act.put, List.setIfInBounds_toArray, List.set_cons_zero, List.set_cons_succ, List.getElem_toArray, List.getElem_cons_zero, List.getElem_cons_succ]
        refine AnyBut.takeE (i := 8) (v := .bool t) rfl (by kernel_rfl) (by kernel_rfl) (by kernel_rfl) (by kernel_rfl) (fun _ _ _ h => h) (Or.inl ⟨by rfl, ?_⟩) hS ?_
        · (intro wq hq; go_simp)
        try simp only [Act.put, List.setIfInBounds_toArray, List.set_cons_zero, List.set_cons_succ, List.getElem_toArray, List.getElem_cons_zero, List.getElem_cons_succ]
        refine AnyBut.done (by kernel_rfl) ?_ _
        try dsimp only [Exit.then]
        clear hS hnq
        cases t with
        | true =>
          go_wp2_with fail
          go_ret
          refine ⟨?_, hSd.out⟩
          have hne : X ≠ Y := by simpa using Ht.out.symm
          rw [HQ.out, decide_eq_false (show ¬ L = M from fun e => hne (by rw [HX.out, HY.out, e]))]
          rfl
        | false =>
          go_wp2_with fail
          go_roundw
          case rel =>
            refine ⟨k + 1, by omega, by go_num, hSd.out, fun j hj => ?_⟩
            rcases Nat.lt_or_ge j k with h | h
            · exact HP.out j h
            · obtain rfl : j = k := by omega
              have : X = Y := by simpa using Ht.out.symm
              rw [← HX.out, ← HY.out, this]
          case measure => simp [intOf]; omega
      · have hlt' : ¬ (k : Int) < (n : Int) := by omega
        obtain rfl : k = n := by omega
        go_wp2_with fail
        go_ret
        refine ⟨?_, HB.out⟩
        rw [HQ.out, decide_eq_true (ext_getD (HL.out.num.trans HM.out.num.symm) (fun j hj => HP.out j (by rw [← HL.out.num]; exact hj)))]
        rfl
  · have hne : ¬ L = M := fun e => hnn (by rw [← hL.num, ← hM.num, e])
    rw [decide_eq_false hne]
    have hnn' : (n == n') = false := by simpa using hnn
    clear hL hM hne
    go_enter Tryd.func28, Tryd.ntmps28
    go_wp2_with fail
    go_ret
    exact ⟨rfl, Below.refl _ _⟩
end Go.Proofs.YtihbmahjdmfjpaaDoor
