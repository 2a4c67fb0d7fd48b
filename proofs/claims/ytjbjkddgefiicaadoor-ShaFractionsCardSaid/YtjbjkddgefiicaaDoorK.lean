/- Plain: the name of 32 bytes is a name, and reads back as them; a text that is a name is the name of what it reads as. -/
import Derived.Test.YtjbjkddgefiicaaDoorO
import Derived.Laws.BytesArg
namespace Go.Proofs.YtjbjkddgefiicaaDoor
open Go.RowKit
set_option linter.unusedVariables false
set_option linter.unusedSimpArgs false
theorem byte_back (x : BitVec 8) : (UInt8.ofNat (Bt x).toNat).toBitVec = x := by
  have h : ∀ k : Fin 256, (UInt8.ofNat (Bt (BitVec.ofFin k)).toNat).toBitVec = BitVec.ofFin k := by decide +kernel
  exact h x.toFin
theorem strB_list (L : List (BitVec 8)) : (strB L).data.toList.map UInt8.toBitVec = L := by
  unfold strB
  rw [foldl_push_bytes]
  show ((#[] ++ ((L.map Bt).map fun n : Int => UInt8.ofNat n.toNat).toArray).toList).map UInt8.toBitVec = L
  rw [Array.toList_append, List.toList_toArray, List.map_append, List.map_map, List.map_map]
  show List.map (fun x => (UInt8.ofNat (Bt x).toNat).toBitVec) L = L
  rw [show (fun x => (UInt8.ofNat (Bt x).toNat).toBitVec) = id from funext byte_back, List.map_id]
theorem strB_size (L : List (BitVec 8)) : (strB L).size = L.length := by
  have h := congrArg List.length (strB_list L)
  rw [List.length_map, Array.length_toList] at h
  exact h
theorem chr_strB (L : List (BitVec 8)) (i : Nat) : chr (strB L) i = L.getD i 0 := by
  show ((strB L).data.toList.map UInt8.toBitVec).getD i 0 = _
  rw [strB_list]
theorem hexs_hi (R : List (BitVec 8)) (j : Nat) (hj : j < R.length) : (hexs R).getD (2 * j) 0 = dig ((R.getD j 0).toNat / 16) := by
  induction R generalizing j with
  | nil => simp at hj
  | cons x R ih =>
    cases j with
    | zero => rfl
    | succ j =>
      have := ih j (by simpa using hj)
      show (dig (x.toNat / 16) :: dig (x.toNat % 16) :: hexs R).getD (2 * (j + 1)) 0 = dig ((R.getD j 0).toNat / 16)
      rw [show 2 * (j + 1) = 2 * j + 1 + 1 by omega, List.getD_cons_succ, List.getD_cons_succ, this]
theorem hexs_lo (R : List (BitVec 8)) (j : Nat) (hj : j < R.length) : (hexs R).getD (2 * j + 1) 0 = dig ((R.getD j 0).toNat % 16) := by
  induction R generalizing j with
  | nil => simp at hj
  | cons x R ih =>
    cases j with
    | zero => rfl
    | succ j =>
      have := ih j (by simpa using hj)
      show (dig (x.toNat / 16) :: dig (x.toNat % 16) :: hexs R).getD (2 * (j + 1) + 1) 0 = dig ((R.getD j 0).toNat % 16)
      rw [show 2 * (j + 1) + 1 = 2 * j + 1 + 1 + 1 by omega, List.getD_cons_succ, List.getD_cons_succ, this]
theorem dval_dig (i : Nat) (hi : i < 16) : dval (dig i) = (i : Int) := by
  have h : ∀ k : Fin 16, dval (dig k.val) = (k.val : Int) := by decide +kernel
  exact h ⟨i, hi⟩
theorem dig_dval (c : BitVec 8) (h : 0 ≤ dval c) : dig (dval c).toNat = c := by
  have h' : ∀ k : Fin 256, 0 ≤ dval (BitVec.ofFin k) → dig (dval (BitVec.ofFin k)).toNat = BitVec.ofFin k := by decide +kernel
  exact h' c.toFin h
theorem join_hl (x : BitVec 8) : BitVec.ofInt 8 (bits .or .i64 (((x.toNat / 16 : Nat) : Int) * 16) ((x.toNat % 16 : Nat) : Int)) = x := by
  have h : ∀ k : Fin 256, BitVec.ofInt 8 (bits .or .i64 (((k.val / 16 : Nat) : Int) * 16) ((k.val % 16 : Nat) : Int)) = BitVec.ofFin k := by decide +kernel
  exact h x.toFin
theorem split_hl (p q : Nat) (hp : p < 16) (hq : q < 16) : (BitVec.ofInt 8 (bits .or .i64 ((p : Int) * 16) (q : Int))).toNat = 16 * p + q := by
  have h : ∀ (k l : Fin 16), (BitVec.ofInt 8 (bits .or .i64 ((k.val : Int) * 16) (l.val : Int))).toNat = 16 * k.val + l.val := by decide +kernel
  exact h ⟨p, hp⟩ ⟨q, hq⟩
theorem name_isName (R : List (BitVec 8)) (hR : R.length = 32) : isName (strB (hexs R)) := by
  refine ⟨by rw [strB_size, hexs_len, hR], fun j hj => ?_⟩
  unfold okAt hiOf loOf
  rw [chr_strB, chr_strB, hexs_hi R j (by omega), hexs_lo R j (by omega), dval_dig _ (by have := (R.getD j 0).isLt; omega), dval_dig _ (by omega)]
  omega
theorem name_back (R : List (BitVec 8)) (hR : R.length = 32) : hv (strB (hexs R)) 32 = R := by
  apply List.ext_getElem
  · rw [hv_len, hR]
  · intro i h1 h2
    have hi : i < 32 := by rwa [hv_len] at h1
    simp only [hv, List.getElem_map, List.getElem_range, hi, if_true]
    unfold byteAt hiOf loOf
    rw [chr_strB, chr_strB, hexs_hi R i (by omega), hexs_lo R i (by omega), dval_dig _ (by have := (R.getD i 0).isLt; omega), dval_dig _ (by omega), join_hl]
    simp [List.getD, h2]
theorem byteAt_nat (s : ByteArray) (j : Nat) (h : okAt s j) : (byteAt s j).toNat = 16 * (hiOf s j).toNat + (loOf s j).toNat := by
  have b1 := dval_bd (chr s (2 * j))
  have b2 := dval_bd (chr s (2 * j + 1))
  unfold okAt at h
  have e1 : hiOf s j = ((hiOf s j).toNat : Int) := by omega
  have e2 : loOf s j = ((loOf s j).toNat : Int) := by omega
  unfold byteAt
  rw [e1, e2]
  unfold hiOf loOf at *
  rw [split_hl _ _ (by omega) (by omega)]
  omega
theorem back_name (s : ByteArray) (h : isName s) : strB (hexs (hv s 32)) = s := by
  obtain ⟨hs, ho⟩ := h
  have hl : (hexs (hv s 32)).length = 64 := by rw [hexs_len, hv_len]
  have key : hexs (hv s 32) = s.data.toList.map UInt8.toBitVec := by
    apply List.ext_getElem
    · rw [hl, List.length_map, Array.length_toList]; exact hs.symm
    · intro i h1 h2
      have hi : i < 64 := by omega
      have g : (hv s 32).getD (i / 2) 0 = byteAt s (i / 2) := by
        have : i / 2 < 32 := by omega
        simp [hv, List.getD, this]
      have hb := byteAt_nat s (i / 2) (ho (i / 2) (by omega))
      have ob := ho (i / 2) (by omega)
      have b2 := dval_bd (chr s (2 * (i / 2) + 1))
      have c : (s.data.toList.map UInt8.toBitVec)[i] = chr s i := by
        show _ = (s.data.toList.map UInt8.toBitVec).getD i 0
        rw [List.getD_eq_getElem?_getD, List.getElem?_eq_getElem h2]; rfl
      have c2 : (hexs (hv s 32))[i] = (hexs (hv s 32)).getD i 0 := by rw [List.getD_eq_getElem?_getD, List.getElem?_eq_getElem h1]; rfl
      rw [c]
      refine c2.trans ?_
      unfold okAt hiOf loOf at ob
      unfold hiOf loOf at hb
      by_cases e : i % 2 = 0
      · have e2 : i = 2 * (i / 2) := by omega
        have q : (byteAt s (i / 2)).toNat / 16 = (dval (chr s (2 * (i / 2)))).toNat := by omega
        rw [show (hexs (hv s 32)).getD i 0 = (hexs (hv s 32)).getD (2 * (i / 2)) 0 by rw [← e2], hexs_hi _ _ (by rw [hv_len]; omega), g, q, dig_dval _ ob.1, ← e2]
      · have e2 : i = 2 * (i / 2) + 1 := by omega
        have q : (byteAt s (i / 2)).toNat % 16 = (dval (chr s (2 * (i / 2) + 1))).toNat := by omega
        rw [show (hexs (hv s 32)).getD i 0 = (hexs (hv s 32)).getD (2 * (i / 2) + 1) 0 by rw [← e2], hexs_lo _ _ (by rw [hv_len]; omega), g, q, dig_dval _ ob.2, ← e2]
  have h2 := strB_list (hexs (hv s 32))
  rw [key] at h2
  rw [key]
  have h3 : (strB (s.data.toList.map UInt8.toBitVec)).data.toList = s.data.toList := by
    have inj : ∀ (a b : List UInt8), a.map UInt8.toBitVec = b.map UInt8.toBitVec → a = b := fun a b hab => by
      apply List.ext_getElem
      · have := congrArg List.length hab; simpa using this
      · intro i h1 h2
        have := congrArg (fun l => l[i]?) hab
        simp [h1, h2] at this
        exact UInt8.toBitVec_inj.1 this
    exact inj _ _ h2
  exact ByteArray.ext (Array.toList_inj.1 h3)
theorem hexs_inj (X Y : List (BitVec 8)) (hX : X.length = 32) (hY : Y.length = 32) (h : strB (hexs X) = strB (hexs Y)) : X = Y := by
  rw [← name_back X hX, ← name_back Y hY, h]
end Go.Proofs.YtjbjkddgefiicaaDoor
