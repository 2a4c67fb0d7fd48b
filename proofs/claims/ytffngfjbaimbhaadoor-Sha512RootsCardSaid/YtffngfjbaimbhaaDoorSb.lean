/- What sha512.word returns, and what putWord writes. -/
import Derived.Test.YtffngfjbaimbhaaDoorSa
import Derived.Outline
namespace Go.Proofs.YtffngfjbaimbhaaDoor
open Go.RowKit
set_option linter.unusedVariables false
set_option linter.unusedSimpArgs false
/-- The word that bytes form, the highest first. -/
def wd (L : List (BitVec 8)) : BitVec 64 := L.foldl (fun a c => a <<< 8 ||| c.setWidth 64) 0
theorem wd_snoc (L : List (BitVec 8)) (k : Nat) (h : k < L.length) : wd (L.take (k + 1)) = wd (L.take k) <<< 8 ||| (L.getD k 0).setWidth 64 := by
  unfold wd; rw [List.take_succ_eq_append_getElem h, List.foldl_append]; simp [h]
theorem Bt_V (x : BitVec 8) : IntKind.u64.wrap (Bt x) = V (x.setWidth 64) := by
  rw [IntKind.wrap_u64]; unfold Bt V; have := x.isLt; simp; try omega
theorem word_any (C : List (BitVec 8)) (g o n cap : Nat) (w : World) (hC : C.length = 8) (hn : 8 ≤ n) (hc : n ≤ cap)
    (hcell : ∀ j, j < 8 → w.cell? ⟨g, o + j, none⟩ = some (.int .u8 (Bt (C.getD j 0)))) :
    Calls Tryd.prog 27 #[.slice (some ⟨g, o, none⟩) n cap] w fun e w' => e = .returned (.int .u64 (V (wd C))) ∧ w = w' := by
  have hcap : 8 ≤ cap := by omega
  have HC := Lib.hid hcell
  have HL := Lib.hid hC
  clear hcell hC
  go_enter Tryd.func27, Tryd.ntmps27
  go_wp2
  go_loop [3, 9] (fun x i => ∃ k : Nat, k ≤ 8 ∧ i = .int .i64 k ∧ x = .int .u64 (V (wd (C.take k)))) (fun _ i => 8 - (intOf i).toNat)
  case atStart => exact ⟨0, Nat.zero_le _, rfl, rfl⟩
  case round =>
    obtain ⟨k, hk, rfl, rfl⟩ := hrel
    by_cases hlt : k < 8
    · have c0 := HC.out k hlt
      have hs := wd_snoc C k (by have := HL.out; omega)
      obtain ⟨a, ha⟩ : ∃ a, a = wd (C.take k) := ⟨_, rfl⟩
      obtain ⟨y, hy⟩ : ∃ y, y = C.getD k 0 := ⟨_, rfl⟩
      rw [← hy] at c0 hs
      rw [← ha] at hs ⊢
      have HS := Lib.hid hs
      have e1 : IntKind.u64.wrap (V a * (256 : Int)) = V (a <<< 8) := V_shl a 8
      have e2 := Bt_V y
      have E1 := Lib.hid e1
      have E2 := Lib.hid e2
      clear ha hy hs e1 e2
      go_wp2
      go_round
      case rel => exact ⟨k + 1, by omega, by go_num, by rw [HS.out, E1.out, E2.out, V_or]⟩
      case measure => simp [intOf]; omega
    · obtain rfl : k = 8 := by omega
      have hfin : C.take 8 = C := List.take_of_length_le (by have := HL.out; omega)
      have HF := Lib.hid hfin
      clear hfin
      go_wp2
      go_ret
      exact ⟨by rw [HF.out]; rfl, rfl⟩
def byteW (x : BitVec 64) (k : Nat) : BitVec 8 := (x >>> (56 - 8 * k)).setWidth 8
/-- The bytes R behind k of the word's bytes, laid from place o on. -/
def pw (R : List (BitVec 8)) (o : Nat) (x : BitVec 64) : Nat → List (BitVec 8)
  | 0 => R
  | k + 1 => (pw R o x k).set (o + k) (byteW x k)
theorem pw_len (R : List (BitVec 8)) (o : Nat) (x : BitVec 64) (k : Nat) : (pw R o x k).length = R.length := by
  induction k with
  | zero => rfl
  | succ k ih => unfold pw; rw [List.length_set, ih]
theorem byteW_val (x : BitVec 64) (k : Nat) : IntKind.u8.wrap (V x / 2 ^ (56 - 8 * k)) = Bt (byteW x k) := by
  rw [V_shr, IntKind.wrap_u8']
  unfold V Bt byteW
  simp
theorem grown_refl (w : World) (r : Option Nat) : w.grownBy w r := ⟨rfl, rfl, rfl, Nat.le_refl _, fun _ _ _ => rfl⟩
theorem grown_set {w w' : World} {g : Nat} (h : w.grownBy w' (some g)) (o : Nat) (v : Value) : w.grownBy (w'.setCell ⟨g, o, none⟩ v) (some g) :=
  ⟨h.os, h.tape, h.output, by simpa [World.setCell] using h.size, fun k hk hne => (Below.heap_setCell _ _ _ _ (fun e => hne (by rw [e]))).trans (h.block k hk hne)⟩
def PwPost (R : List (BitVec 8)) (o g T : Nat) (x : BitVec 64) (w : World) (e : Ending) (w' : World) : Prop :=
  e = .returned (.tuple #[]) ∧ Blk w' g T (vbs (pw R o x 8)) ∧ w.grownBy w' (some g)
theorem putWord_any (R : List (BitVec 8)) (x : BitVec 64) (g o n cap T : Nat) (w : World) (hB : Blk w g T (vbs R)) (ho : o + 8 ≤ R.length) (hn : 8 ≤ n) :
    Calls Tryd.prog 33 #[.slice (some ⟨g, o, none⟩) n cap, .int .u64 (V x)] w (PwPost R o g T x w) := by
  have HB := Lib.hid hB
  have Ho := Lib.hid ho
  clear hB ho
  go_enter Tryd.func33, Tryd.ntmps33
  go_wp2
  go_loopw [5] (fun i wr => ∃ k : Nat, k ≤ 8 ∧ i = .int .i64 k ∧ Blk wr g T (vbs (pw R o x k)) ∧ w.grownBy wr (some g)) (fun i _ => 8 - (intOf i).toNat)
  case atStart => exact ⟨0, Nat.zero_le _, rfl, HB.out, grown_refl _ _⟩
  case round =>
    obtain ⟨k, hk, rfl, hBk, hG⟩ := hrel
    by_cases hlt : k < 8
    · have c0 := hBk.cell (vbs_at (l := pw R o x k) (j := o + k) (by rw [pw_len]; have := Ho.out; omega))
      have f0 := hBk.free (o + k)
      have hv := byteW_val x k
      have hmin : min (56 - 8 * k) 64 = 56 - 8 * k := by omega
      have k0 : (0 : Int) ≤ (k : Int) := by omega
      have k1 : (k : Int) < 8 := by omega
      have HBk := Lib.hid hBk
      have HG := Lib.hid hG
      have ht : ((56 : Int) - 8 * (k : Int)).toNat = 56 - 8 * k := by omega
      clear hBk hG
      go_wp2
      go_roundw
      case rel => exact ⟨k + 1, by omega, by go_num, by have := HBk.out.set (o + k) (.int .u8 (Bt (byteW x k))); rwa [vbs_set] at this, grown_set HG.out _ _⟩
      case measure => simp [intOf]; omega
    · obtain rfl : k = 8 := by omega
      have HBk := Lib.hid hBk
      have HG := Lib.hid hG
      clear hBk hG
      go_wp2
      go_end0
      exact ⟨rfl, HBk.out, HG.out⟩
end Go.Proofs.YtffngfjbaimbhaaDoor
