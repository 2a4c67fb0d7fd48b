/- The law ShaNamesOnce returns true for every two digests and every text, in a world whose two tables are as laid: 'namesOnce_walk'. -/
import Derived.Test.YtjbjkddgefiicaaDoorR
namespace Go.Proofs.YtjbjkddgefiicaaDoor
open Go.RowKit
set_option linter.unusedVariables false
set_option linter.unusedSimpArgs false
theorem tol_data (s : ByteArray) : s.toList = s.data.toList := by
  have key : ∀ (n i : Nat) (r : List UInt8), s.size - i = n → ByteArray.toList.loop s i r = r.reverse ++ s.data.toList.drop i := by
    intro n
    induction n with
    | zero =>
      intro i r h
      unfold ByteArray.toList.loop
      rw [if_neg (by omega), List.drop_eq_nil_of_le (by rw [Array.length_toList]; show s.size ≤ i; omega)]
      simp
    | succ n ih =>
      intro i r h
      unfold ByteArray.toList.loop
      rw [if_pos (by omega), ih _ _ (by omega)]
      have hl : i < s.data.toList.length := by rw [Array.length_toList]; show i < s.size; omega
      have hi : i < s.data.size := by show i < s.size; omega
      rw [List.drop_eq_getElem_cons hl]
      have e : s.get! i = s.data.toList[i] := by
        show s.data[i]! = _
        rw [getElem!_pos s.data i hi]
        rfl
      rw [e]
      simp
  have := key s.size 0 [] (by omega)
  simpa [ByteArray.toList] using this
theorem tol_inj {s t : ByteArray} (h : s.toList = t.toList) : s = t := by
  rw [tol_data, tol_data] at h
  cases s; cases t
  congr 1
  exact Array.ext' h
theorem eql_dec (X Y : List (BitVec 8)) (hX : X.length = 32) (hY : Y.length = 32) (w : World) : (binOp .eql 25 (.agg (vbs X).toArray) (.agg (vbs Y).toArray)).run Tryd.prog w = .ok (.bool (decide (X = Y))) w := by
  have e : ∀ X : List (BitVec 8), vbs X = (X.map UInt8.ofBitVec).map Extern.Stop.cell := fun X => by simp [vbs, Extern.Stop.cell, Bt]
  have := run_eql_bytes (P := Tryd.prog) w 25 5 32 Tryd.underlying25 Tryd.underlying5 size5 (X.map UInt8.ofBitVec) (Y.map UInt8.ofBitVec) (by simpa using hX) (by simpa using hY)
  rw [← e, ← e] at this
  rw [this]
  by_cases h : X = Y
  · subst h; simp
  · have : X.map UInt8.ofBitVec ≠ Y.map UInt8.ofBitVec := fun h2 => h (by
      have := congrArg (List.map UInt8.toBitVec) h2
      simpa [List.map_map, Function.comp_def] using this)
    simp [h, this]
theorem text_dec (X Y : List (BitVec 8)) (hX : X.length = 32) (hY : Y.length = 32) : ((strB (hexs X)).toList == (strB (hexs Y)).toList) = decide (X = Y) := by
  by_cases h : X = Y
  · subst h; simp
  · have : (strB (hexs X)).toList ≠ (strB (hexs Y)).toList := fun h2 => h (hexs_inj X Y hX hY (tol_inj h2))
    simp [h, this]
set_option maxRecDepth 100000 in
set_option maxHeartbeats 1000000 in
theorem namesOnce_big (G H : List (BitVec 8)) (s : ByteArray) (hG : G.length = 32) (hH : H.length = 32) (w : World) (hGl : Glob w) (h : 3000 < s.size) :
    Calls Tryd.prog 10 #[.agg (vbs G).toArray, .agg (vbs H).toArray, .string s] w fun e w' => e = .returned (.bool true) ∧ Below w.heap.size w w' := by
  have h1 : (3000 : Int) < (s.size : Int) := by omega
  have hb0 : Below w.heap.size w ((w.alloc (Obj.cells (vbs G).toArray 25)).alloc (Obj.cells (vbs H).toArray 25)) := ((Below.refl _ _).alloc (Nat.le_refl _) _).alloc (by simp) _
  have HA0 := Lib.hid (awake_any _ (hGl.below hb0))
  have HB := Lib.hid hb0
  clear hGl hb0
  go_enter Tryd.func10, Tryd.ntmps10
  go_wp2_with (go_at_call 11; (with_reducible refine HA0.out.mono ?_); rintro e w1 ⟨rfl, hb1⟩; dsimp only)
  go_ret
  exact ⟨rfl, HB.out.trans (hb1.mono HB.out.size)⟩
theorem namesOnce_walk (G H : List (BitVec 8)) (s : ByteArray) (hG : G.length = 32) (hH : H.length = 32) (w : World) (hGl : Glob w) :
    Calls Tryd.prog 10 #[.agg (vbs G).toArray, .agg (vbs H).toArray, .string s] w fun e w' => e = .returned (.bool true) ∧ Below w.heap.size w w' := by
  by_cases h : 3000 < s.size
  · exact namesOnce_big G H s hG hH w hGl h
  · have hA : ∀ w', Below w.heap.size w w' → Calls Tryd.prog 11 #[] w' fun e w'' => e = .returned (.bool true) ∧ Below w'.heap.size w' w'' := fun w' hb => awake_any w' (hGl.below hb)
    have hOG : ∀ w', Calls Tryd.prog 18 #[.string (strB (hexs G))] w' fun e w'' => e = .returned (.tuple #[.agg (vbs G).toArray, .bool true]) ∧ Below w'.heap.size w' w'' := fun w' =>
      (of_any (strB (hexs G)) (by rw [strB_size, hexs_len, hG]; decide) w').mono fun e w'' hp => by
        have := hp.1 (name_isName G hG)
        rw [name_back G hG] at this
        exact ⟨this, hp.2.2⟩
    by_cases hn : isName s
    · exact namesOnce_gen G H (hv s 32) s (strB (hexs G)) (strB (hexs H)) (strB (hexs (hv s 32))) true (decide (G = H)) hG hH (hv_len s 32) w (by omega) (text_dec G H hG hH) (eql_dec G H hG hH)
        (fun _ => by rw [back_name s hn]; simp) (fun h => by cases h) hA (text_any G hG) (text_any H hH) (text_any _ (hv_len s 32)) hOG
        (fun w' => (of_any s (by omega) w').mono fun e w'' hp => ⟨hp.1 hn, hp.2.2⟩)
    · exact namesOnce_gen G H Z32 s (strB (hexs G)) (strB (hexs H)) (strB (hexs Z32)) false (decide (G = H)) hG hH Z32_len w (by omega) (text_dec G H hG hH) (eql_dec G H hG hH)
        (fun h => by cases h) (fun _ => eql_same Z32 Z32_len) hA (text_any G hG) (text_any H hH) (text_any Z32 Z32_len) hOG
        (fun w' => (of_any s (by omega) w').mono fun e w'' hp => ⟨hp.2.1 hn, hp.2.2⟩)
end Go.Proofs.YtjbjkddgefiicaaDoor
