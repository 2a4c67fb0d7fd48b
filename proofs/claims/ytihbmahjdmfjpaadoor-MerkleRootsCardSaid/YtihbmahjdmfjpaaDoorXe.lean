/- Names, and appends to rows of the call's own. -/
import Derived.Test.YtihbmahjdmfjpaaDoorXd
import Derived.Deep.DeepCutAuto
import Derived.Lib.Bytealg
import Derived.Laws.Externs
import Derived.Laws.BytesArg
import Derived.Laws.AppendOwnNone
import Derived.Deep.RegionHeld3
namespace Go.Proofs.YtihbmahjdmfjpaaDoor
set_option maxRecDepth 100000
open Go.RowKit
set_option linter.unusedVariables false
set_option linter.unusedSimpArgs false
/-- A middle's nine cells. -/
def mdv (s : St) (b : Bool) : List Value := [.int .u32 (U s.a), .int .u32 (U s.b), .int .u32 (U s.c), .int .u32 (U s.d), .int .u32 (U s.e), .int .u32 (U s.f), .int .u32 (U s.g), .int .u32 (U s.h), .bool b]
def zeroSt : St := ⟨0, 0, 0, 0, 0, 0, 0, 0⟩
theorem mdv_one (s : St) (b : Bool) : ∀ v ∈ mdv s b, v.oneCell' = true := by simp [mdv, Value.oneCell']
theorem Blk.range' {w : World} {b : Nat} {T : TypeId} {vs us : List Value} (h : Blk w b T (vs ++ us)) : w.rangeAt b 0 vs := fun j v hv => by
  rw [Nat.zero_add]
  exact h.cell (by rw [List.getElem?_append_left (List.getElem?_eq_some_iff.1 hv).1]; exact hv)
open Go.RowKit
set_option linter.unusedVariables false
set_option linter.unusedSimpArgs false
theorem blocks_append (ch : St → List (BitVec 8) → St) (S : St) (C R : List (BitVec 8)) (hC : C.length = 64) (k : Nat) : blocks ch S (C ++ R) (k + 1) = blocks ch (ch S C) R k := by
  induction k with
  | zero =>
    show ch S (((C ++ R).drop 0).take 64) = ch S C
    rw [List.drop_zero, List.take_append_of_le_length (by omega), List.take_of_length_le (by omega)]
  | succ k ih =>
    show ch (blocks ch S (C ++ R) (k + 1)) (((C ++ R).drop (64 * (k + 1))).take 64) = ch (blocks ch (ch S C) R k) ((R.drop (64 * k)).take 64)
    rw [ih, List.drop_append, List.drop_of_length_le (by omega), List.nil_append, hC, show 64 * (k + 1) - 64 = 64 * k by omega]
theorem fin_append (ch : St → List (BitVec 8) → St) (S : St) (C R : List (BitVec 8)) (hC : C.length = 64) (dn : Nat) : fin ch (ch S C) (dn + 64) R = fin ch S dn (C ++ R) := by
  have hl : (C ++ R).length = 64 + R.length := by rw [List.length_append, hC]
  have e1 : (64 + R.length) / 64 = R.length / 64 + 1 := by omega
  have e2 : (64 + R.length) % 64 = R.length % 64 := by omega
  have e3 : (C ++ R).drop (64 * (R.length / 64 + 1)) = R.drop (64 * (R.length / 64)) := by
    rw [List.drop_append, List.drop_of_length_le (by omega), List.nil_append, hC, show 64 * (R.length / 64 + 1) - 64 = 64 * (R.length / 64) by omega]
  unfold fin
  rw [hl, e1, e2, e3, blocks_append ch S C R hC, show dn + (64 + R.length) = dn + 64 + R.length by omega]
/-- A middle's double digest is that of the chunk and the rest. -/
theorem middle_whole (C R : List (BitVec 8)) (hC : C.length = 64) : sumB (finB (change ini C) 64 R) = twiceB (C ++ R) := by
  have h : finB (change ini C) 64 R = sumB (C ++ R) := fin_append change ini C R hC 0
  unfold twiceB
  rw [h]
open Go.RowKit
set_option linter.unusedVariables false
set_option linter.unusedSimpArgs false
/-- The value of a digit, or -1. -/
def dval (c : BitVec 8) : Int := Lib.indexByte [48, 49, 50, 51, 52, 53, 54, 55, 56, 57, 97, 98, 99, 100, 101, 102] (Bt c).toNat.toUInt8
theorem dval_bd (c : BitVec 8) : -1 ≤ dval c ∧ dval c ≤ 15 := by
  have h : ∀ k : Fin 256, -1 ≤ dval (BitVec.ofFin k) ∧ dval (BitVec.ofFin k) ≤ 15 := by decide +kernel
  exact h c.toFin
/-- Byte i of a text. -/
def chr (s : ByteArray) (i : Nat) : BitVec 8 := (bytesL s).getD i 0
  where bytesL (s : ByteArray) : List (BitVec 8) := s.data.toList.map UInt8.toBitVec
open Go.RowKit
set_option linter.unusedVariables false
set_option linter.unusedSimpArgs false
def hiOf (s : ByteArray) (j : Nat) : Int := dval (chr s (2 * j))
def loOf (s : ByteArray) (j : Nat) : Int := dval (chr s (2 * j + 1))
def okAt (s : ByteArray) (j : Nat) : Prop := 0 ≤ hiOf s j ∧ 0 ≤ loOf s j
def byteAt (s : ByteArray) (j : Nat) : BitVec 8 := BitVec.ofInt 8 (bits .or .i64 (hiOf s j * 16) (loOf s j))
theorem byteAt_val (s : ByteArray) (j : Nat) : IntKind.u8.wrap (bits .or .i64 (hiOf s j * 16) (loOf s j)) = Bt (byteAt s j) := by
  rw [IntKind.wrap_u8']
  unfold Bt byteAt
  rw [BitVec.toNat_ofInt]
  omega
/-- The digest behind k rounds. -/
def hv (s : ByteArray) (k : Nat) : List (BitVec 8) := (List.range 32).map fun j => if j < k then byteAt s j else 0
theorem hv_len (s : ByteArray) (k : Nat) : (hv s k).length = 32 := by simp [hv]
theorem hv_step (s : ByteArray) (k : Nat) (hk : k < 32) : (hv s k).set k (byteAt s k) = hv s (k + 1) := by
  apply List.ext_getElem
  · simp [hv]
  · intro i h1 h2
    simp only [hv, List.getElem_set, List.getElem_map, List.getElem_range]
    by_cases e : k = i
    · subst e; simp
    · simp only [e, if_false]
      by_cases h : i < k
      · rw [if_pos h, if_pos (by omega)]
      · rw [if_neg h, if_neg (by omega)]
theorem hv_zero (s : ByteArray) : hv s 0 = Z32 := by
  apply List.ext_getElem
  · rw [hv_len, Z32_len]
  · intro i h1 h2
    have e : Z32[i] = 0 := by unfold Z32; exact List.getElem_replicate _
    rw [e]
    simp [hv]
def isName (s : ByteArray) : Prop := s.size = 64 ∧ ∀ j, j < 32 → okAt s j
theorem chr_at (s : ByteArray) (i : Nat) (hi : i < s.size) (w : World) : (Instr.index 9 (.string s) (.int .i64 (i : Int))).run Tryd.prog w = .ok (.int .u8 (Bt (chr s i))) w := by
  rw [run_index_string w 9 s .i64 i Tryd.underlying9, dif_pos ⟨by omega, by omega⟩]
  have e : ((s[(i : Int).toNat]'(by omega)).toNat : Int) = Bt (chr s i) := by
    have hl : i < s.data.toList.length := by rw [Array.length_toList]; exact hi
    have e2 : s.data[i]? = some (s.data[i]'hi) := Array.getElem?_eq_getElem hi
    simp [chr, chr.bytesL, Bt, List.getD, hl, e2]
    rfl
  rw [e]
def RelO (w : World) (s : ByteArray) (i : Value) (wq : World) : Prop :=
  ∃ k : Nat, k ≤ 32 ∧ i = .int .i64 k ∧ (∀ j, j < k → okAt s j) ∧ Below w.heap.size w wq ∧ Blk wq w.heap.size 25 (vbs Z32) ∧ Blk wq (w.heap.size + 1) 25 (vbs (hv s k))
theorem RelO.step {w W : World} {s : ByteArray} {k : Nat} (hk : k < 32) (ho : ∀ j, j < k → okAt s j) (hok : okAt s k) (hb : Below w.heap.size w W) (h0 : Blk W w.heap.size 25 (vbs Z32)) (hB : Blk W (w.heap.size + 1) 25 (vbs (hv s k))) :
    RelO w s (.int .i64 ((k : Int) + 1)) (W.setCell ⟨w.heap.size + 1, k, none⟩ (.int .u8 (Bt (byteAt s k)))) := by
  refine ⟨k + 1, by omega, by simp, fun j hj => ?_, hb.setCell (by simp) _, h0.other (by simp) _, ?_⟩
  · by_cases e : j = k
    · subst e; exact hok
    · exact ho j (by omega)
  · have := hB.set k (.int .u8 (Bt (byteAt s k)))
    rwa [vbs_set, hv_step s k hk] at this
theorem RelO.drew {w W : World} {s : ByteArray} {i : Value} (h : RelO w s i W) : RelO w s i W.drew := by
  obtain ⟨k, h1, h2, h3, h4, h5, h6⟩ := h
  exact ⟨k, h1, h2, h3, h4.drew, h5, h6⟩
/-- What a text's digest is, and whether there is one. -/
def OfPost (w : World) (s : ByteArray) (e : Ending) (w' : World) : Prop :=
  (isName s → e = .returned (.tuple #[.agg (vbs (hv s 32)).toArray, .bool true])) ∧ (¬ isName s → e = .returned (.tuple #[.agg (vbs Z32).toArray, .bool false])) ∧ Below w.heap.size w w'
open Go.RowKit
set_option linter.unusedVariables false
set_option linter.unusedSimpArgs false
theorem byte_back (x : BitVec 8) : (UInt8.ofNat (Bt x).toNat).toBitVec = x := by
  have h : ∀ k : Fin 256, (UInt8.ofNat (Bt (BitVec.ofFin k)).toNat).toBitVec = BitVec.ofFin k := by decide +kernel
  exact h x.toFin
theorem strB_list0 (L : List (BitVec 8)) : (strB L).data.toList.map UInt8.toBitVec = L := by
  unfold strB
  rw [foldl_push_bytes]
  show ((#[] ++ ((L.map Bt).map fun n : Int => UInt8.ofNat n.toNat).toArray).toList).map UInt8.toBitVec = L
  rw [Array.toList_append, List.toList_toArray, List.map_append, List.map_map, List.map_map]
  show List.map (fun x => (UInt8.ofNat (Bt x).toNat).toBitVec) L = L
  rw [show (fun x => (UInt8.ofNat (Bt x).toNat).toBitVec) = id from funext byte_back, List.map_id]
theorem strB_size (L : List (BitVec 8)) : (strB L).size = L.length := by
  have h := congrArg List.length (strB_list0 L)
  rw [List.length_map, Array.length_toList] at h
  exact h
theorem chr_strB (L : List (BitVec 8)) (i : Nat) : chr (strB L) i = L.getD i 0 := by
  show ((strB L).data.toList.map UInt8.toBitVec).getD i 0 = _
  rw [strB_list0]
theorem hexs_hi (R : List (BitVec 8)) (j : Nat) (hj : j < R.length) : (hexs R).getD (2 * j) 0 = dig ((R.getD j 0).toNat / 16) := by
  induction R generalizing j with
  | nil => simp at hj
  | cons x R ih =>
    cases j with
    | zero => rfl
    | succ j =>
      have := ih j (by simpa using hj)
      show (dig (x.toNat / 16) :: dig (x.toNat % 16) :: hexs R).getD (2 * (j + 1)) 0 = dig ((R.getD j 0).toNat / 16)
      rw [show 2 * (j + 1) = 2 * j + 1 + 1 by omega, List.getD_cons_succ, List.getD_cons_succ, this]
theorem hexs_lo (R : List (BitVec 8)) (j : Nat) (hj : j < R.length) : (hexs R).getD (2 * j + 1) 0 = dig ((R.getD j 0).toNat % 16) := by
  induction R generalizing j with
  | nil => simp at hj
  | cons x R ih =>
    cases j with
    | zero => rfl
    | succ j =>
      have := ih j (by simpa using hj)
      show (dig (x.toNat / 16) :: dig (x.toNat % 16) :: hexs R).getD (2 * (j + 1) + 1) 0 = dig ((R.getD j 0).toNat % 16)
      rw [show 2 * (j + 1) + 1 = 2 * j + 1 + 1 + 1 by omega, List.getD_cons_succ, List.getD_cons_succ, this]
theorem dval_dig (i : Nat) (hi : i < 16) : dval (dig i) = (i : Int) := by
  have h : ∀ k : Fin 16, dval (dig k.val) = (k.val : Int) := by decide +kernel
  exact h ⟨i, hi⟩
theorem dig_dval (c : BitVec 8) (h : 0 ≤ dval c) : dig (dval c).toNat = c := by
  have h' : ∀ k : Fin 256, 0 ≤ dval (BitVec.ofFin k) → dig (dval (BitVec.ofFin k)).toNat = BitVec.ofFin k := by decide +kernel
  exact h' c.toFin h
theorem join_hl (x : BitVec 8) : BitVec.ofInt 8 (bits .or .i64 (((x.toNat / 16 : Nat) : Int) * 16) ((x.toNat % 16 : Nat) : Int)) = x := by
  have h : ∀ k : Fin 256, BitVec.ofInt 8 (bits .or .i64 (((k.val / 16 : Nat) : Int) * 16) ((k.val % 16 : Nat) : Int)) = BitVec.ofFin k := by decide +kernel
  exact h x.toFin
theorem split_hl (p q : Nat) (hp : p < 16) (hq : q < 16) : (BitVec.ofInt 8 (bits .or .i64 ((p : Int) * 16) (q : Int))).toNat = 16 * p + q := by
  have h : ∀ (k l : Fin 16), (BitVec.ofInt 8 (bits .or .i64 ((k.val : Int) * 16) (l.val : Int))).toNat = 16 * k.val + l.val := by decide +kernel
  exact h ⟨p, hp⟩ ⟨q, hq⟩
theorem name_isName (R : List (BitVec 8)) (hR : R.length = 32) : isName (strB (hexs R)) := by
  refine ⟨by rw [strB_size, hexs_len, hR], fun j hj => ?_⟩
  unfold okAt hiOf loOf
  rw [chr_strB, chr_strB, hexs_hi R j (by omega), hexs_lo R j (by omega), dval_dig _ (by have := (R.getD j 0).isLt; omega), dval_dig _ (by omega)]
  omega
theorem name_back (R : List (BitVec 8)) (hR : R.length = 32) : hv (strB (hexs R)) 32 = R := by
  apply List.ext_getElem
  · rw [hv_len, hR]
  · intro i h1 h2
    have hi : i < 32 := by rwa [hv_len] at h1
    simp only [hv, List.getElem_map, List.getElem_range, hi, if_true]
    unfold byteAt hiOf loOf
    rw [chr_strB, chr_strB, hexs_hi R i (by omega), hexs_lo R i (by omega), dval_dig _ (by have := (R.getD i 0).isLt; omega), dval_dig _ (by omega), join_hl]
    simp [List.getD, h2]
theorem byteAt_nat (s : ByteArray) (j : Nat) (h : okAt s j) : (byteAt s j).toNat = 16 * (hiOf s j).toNat + (loOf s j).toNat := by
  have b1 := dval_bd (chr s (2 * j))
  have b2 := dval_bd (chr s (2 * j + 1))
  unfold okAt at h
  have e1 : hiOf s j = ((hiOf s j).toNat : Int) := by omega
  have e2 : loOf s j = ((loOf s j).toNat : Int) := by omega
  unfold byteAt
  rw [e1, e2]
  unfold hiOf loOf at *
  rw [split_hl _ _ (by omega) (by omega)]
  omega
theorem back_name (s : ByteArray) (h : isName s) : strB (hexs (hv s 32)) = s := by
  obtain ⟨hs, ho⟩ := h
  have hl : (hexs (hv s 32)).length = 64 := by rw [hexs_len, hv_len]
  have key : hexs (hv s 32) = s.data.toList.map UInt8.toBitVec := by
    apply List.ext_getElem
    · rw [hl, List.length_map, Array.length_toList]; exact hs.symm
    · intro i h1 h2
      have hi : i < 64 := by omega
      have g : (hv s 32).getD (i / 2) 0 = byteAt s (i / 2) := by
        have : i / 2 < 32 := by omega
        simp [hv, List.getD, this]
      have hb := byteAt_nat s (i / 2) (ho (i / 2) (by omega))
      have ob := ho (i / 2) (by omega)
      have b2 := dval_bd (chr s (2 * (i / 2) + 1))
      have c : (s.data.toList.map UInt8.toBitVec)[i] = chr s i := by
        show _ = (s.data.toList.map UInt8.toBitVec).getD i 0
        rw [List.getD_eq_getElem?_getD, List.getElem?_eq_getElem h2]; rfl
      have c2 : (hexs (hv s 32))[i] = (hexs (hv s 32)).getD i 0 := by rw [List.getD_eq_getElem?_getD, List.getElem?_eq_getElem h1]; rfl
      rw [c]
      refine c2.trans ?_
      unfold okAt hiOf loOf at ob
      unfold hiOf loOf at hb
      by_cases e : i % 2 = 0
      · have e2 : i = 2 * (i / 2) := by omega
        have q : (byteAt s (i / 2)).toNat / 16 = (dval (chr s (2 * (i / 2)))).toNat := by omega
        rw [show (hexs (hv s 32)).getD i 0 = (hexs (hv s 32)).getD (2 * (i / 2)) 0 by rw [← e2], hexs_hi _ _ (by rw [hv_len]; omega), g, q, dig_dval _ ob.1, ← e2]
      · have e2 : i = 2 * (i / 2) + 1 := by omega
        have q : (byteAt s (i / 2)).toNat % 16 = (dval (chr s (2 * (i / 2) + 1))).toNat := by omega
        rw [show (hexs (hv s 32)).getD i 0 = (hexs (hv s 32)).getD (2 * (i / 2) + 1) 0 by rw [← e2], hexs_lo _ _ (by rw [hv_len]; omega), g, q, dig_dval _ ob.2, ← e2]
  have h2 := strB_list0 (hexs (hv s 32))
  rw [key] at h2
  rw [key]
  have h3 : (strB (s.data.toList.map UInt8.toBitVec)).data.toList = s.data.toList := by
    have inj : ∀ (a b : List UInt8), a.map UInt8.toBitVec = b.map UInt8.toBitVec → a = b := fun a b hab => by
      apply List.ext_getElem
      · have := congrArg List.length hab; simpa using this
      · intro i h1 h2
        have := congrArg (fun l => l[i]?) hab
        simp [h1, h2] at this
        exact UInt8.toBitVec_inj.1 this
    exact inj _ _ h2
  exact ByteArray.ext (Array.toList_inj.1 h3)
theorem hexs_inj (X Y : List (BitVec 8)) (hX : X.length = 32) (hY : Y.length = 32) (h : strB (hexs X) = strB (hexs Y)) : X = Y := by
  rw [← name_back X hX, ← name_back Y hY, h]
open Go.RowKit
set_option linter.unusedVariables false
set_option linter.unusedSimpArgs false
open Go.RowKit
set_option linter.unusedVariables false
set_option linter.unusedSimpArgs false
theorem digit_ati (i : Nat) (hi : i < 16) (w : World) : (Instr.index 9 (.string { data := #[48, 49, 50, 51, 52, 53, 54, 55, 56, 57, 97, 98, 99, 100, 101, 102] }) (.int .i64 (i : Int))).run Tryd.prog w = .ok (.int .u8 (Bt (dig i))) w := by
  have : i = 0 ∨ i = 1 ∨ i = 2 ∨ i = 3 ∨ i = 4 ∨ i = 5 ∨ i = 6 ∨ i = 7 ∨ i = 8 ∨ i = 9 ∨ i = 10 ∨ i = 11 ∨ i = 12 ∨ i = 13 ∨ i = 14 ∨ i = 15 := by omega
  rcases this with rfl | rfl | rfl | rfl | rfl | rfl | rfl | rfl | rfl | rfl | rfl | rfl | rfl | rfl | rfl | rfl <;> rfl
theorem Bt_eq (x y : BitVec 8) : (Bt x == Bt y) = decide (x = y) := by
  by_cases h : x = y
  · subst h; simp
  · have : Bt x ≠ Bt y := fun e => h (BitVec.eq_of_toNat_eq (by unfold Bt at e; omega))
    simp [h, this]
theorem byteAt_val2 (s : ByteArray) (j : Nat) (h : okAt s j) : IntKind.u8.wrap (16 * hiOf s j + loOf s j) = Bt (byteAt s j) := by
  have h1 := byteAt_nat s j h
  have b1 := dval_bd (chr s (2 * j))
  have b2 := dval_bd (chr s (2 * j + 1))
  unfold okAt at h
  have b1' : hiOf s j ≤ 15 := b1.2
  have b2' : loOf s j ≤ 15 := b2.2
  rw [IntKind.wrap_u8']
  unfold Bt
  rw [h1]
  omega
open Go.RowKit
set_option linter.unusedVariables false
set_option linter.unusedSimpArgs false
theorem Bt_tdiv (x : BitVec 8) : (Bt x).tdiv 16 % (256 : Int) = ((x.toNat / 16 : Nat) : Int) := by
  have := x.isLt
  unfold Bt
  rw [show ((x.toNat : Int).tdiv 16) = ((x.toNat / 16 : Nat) : Int) from rfl]
  omega
theorem Bt_tmod (x : BitVec 8) : (Bt x).tmod 16 % (256 : Int) = ((x.toNat % 16 : Nat) : Int) := by
  have := x.isLt
  unfold Bt
  rw [show ((x.toNat : Int).tmod 16) = ((x.toNat % 16 : Nat) : Int) from rfl]
  omega
theorem Bt_tmod' (x : BitVec 8) : (Bt x).tmod 16 = ((x.toNat % 16 : Nat) : Int) := rfl
theorem Bt_modi (x : BitVec 8) : Bt x % (16 : Int) = ((x.toNat % 16 : Nat) : Int) := by unfold Bt; simp
structure XR (w : World) (R : List (BitVec 8)) (L : List (BitVec 8)) (v : Value) (wq : World) : Prop where
  bel : Below w.heap.size w wq
  b0 : Blk wq w.heap.size 25 (vbs R)
  own : OB wq (w.heap.size + 1) v L
end Go.Proofs.YtihbmahjdmfjpaaDoor
