/- Numbers of 32 bits as the model holds them, blocks of known cells, and what sha.turned returns: the xor of the rotations, for one to a hundred positions of 1 to 31. -/
import Derived.Test.YtjbjkddgefiicaaDoorProg
import Derived.WalkKit
import Derived.WalkSpells
import Derived.WalkLawsBesides
import Derived.Laws.BitsAllLaws
import Derived.Laws.Shifts
import Derived.Lib.Hide
import Derived.Deep.QuietTactic
import Derived.BigQuiet
import Derived.Deep.RegionHeld3
import Derived.Deep.DeepMust
import Derived.KernelRfl
namespace Go.Proofs.YtjbjkddgefiicaaDoor
open Go.RowKit
set_option linter.unusedVariables false
set_option linter.unusedSimpArgs false
/-- A number of 32 bits, as the model holds it. -/
def U (x : BitVec 32) : Int := (x.toNat : Int)
theorem U_def (x : BitVec 32) : U x = (x.toNat : Int) := rfl
theorem U_lo (x : BitVec 32) : 0 ≤ U x := Int.natCast_nonneg _
theorem U_hi (x : BitVec 32) : U x < 4294967296 := by unfold U; have := x.isLt; omega
theorem U_add (a b : BitVec 32) : (U a + U b) % 4294967296 = U (a + b) := by
  unfold U; rw [BitVec.toNat_add]; omega
theorem U_and (a b : BitVec 32) : bits .and .u32 (U a) (U b) = U (a &&& b) := by
  unfold U; rw [u32_and_nat _ _ a.isLt b.isLt, BitVec.toNat_and]
theorem U_or (a b : BitVec 32) : bits .or .u32 (U a) (U b) = U (a ||| b) := by
  unfold U; rw [u32_or_nat _ _ a.isLt b.isLt, BitVec.toNat_or]
theorem U_xor (a b : BitVec 32) : bits .xor .u32 (U a) (U b) = U (a ^^^ b) := by
  unfold U; rw [u32_xor_nat _ _ a.isLt b.isLt, BitVec.toNat_xor]
theorem U_zero : U 0 = 0 := rfl
theorem U_shr (a : BitVec 32) (n : Nat) : U a / 2 ^ n = U (a >>> n) := by
  unfold U; rw [BitVec.toNat_ushiftRight, Nat.shiftRight_eq_div_pow]; simp
theorem U_shl (a : BitVec 32) (n : Nat) : U a * 2 ^ n % 4294967296 = U (a <<< n) := by
  unfold U; rw [BitVec.toNat_shiftLeft, Nat.shiftLeft_eq]; simp
theorem U_rot (x : BitVec 32) (n : Nat) (h0 : 1 ≤ n) (h1 : n ≤ 31) :
    bits .or .u32 (U x * 2 ^ (32 - n) % 4294967296) (U x / 2 ^ n) = U (x.rotateRight n) := by
  rw [U_shl, U_shr, U_or, BitVec.rotateRight_def, Nat.mod_eq_of_lt (by omega : n < 32), BitVec.or_comm]
/-- Block b is a row of cells, all known, none frozen. -/
def Blk (w : World) (b : Nat) (T : TypeId) (vs : List Value) : Prop := w.heap[b]? = some (.cells vs.toArray T (0, 0))
theorem Blk.cell {w : World} {b : Nat} {T : TypeId} {vs : List Value} (h : Blk w b T vs) {j : Nat} {v : Value} (hj : vs[j]? = some v) : w.cell? ⟨b, j, none⟩ = some v := by
  unfold Blk at h; simp [World.cell?, h, hj]
theorem Blk.free {w : World} {b : Nat} {T : TypeId} {vs : List Value} (h : Blk w b T vs) (j : Nat) : w.frozen? ⟨b, j, none⟩ = false := by
  unfold Blk at h; simp [World.frozen?, h]
theorem Blk.lt {w : World} {b : Nat} {T : TypeId} {vs : List Value} (h : Blk w b T vs) : b < w.heap.size := by
  unfold Blk at h
  rcases Nat.lt_or_ge b w.heap.size with hlt | hge
  · exact hlt
  · rw [Array.getElem?_eq_none hge] at h; cases h
theorem Blk.new (w : World) (T : TypeId) (vs : Array Value) : Blk (w.alloc (.cells vs T)) w.heap.size T vs.toList := by
  unfold Blk; show (w.heap.push _)[w.heap.size]? = _; rw [Array.getElem?_push_size]
theorem Blk.alloc {w : World} {b : Nat} {T : TypeId} {vs : List Value} (h : Blk w b T vs) (o : Obj) : Blk (w.alloc o) b T vs := by
  have hl := h.lt
  unfold Blk at *; rw [Below.heap_alloc _ _ _ hl]; exact h
theorem Blk.drew {w : World} {b : Nat} {T : TypeId} {vs : List Value} (h : Blk w b T vs) : Blk w.drew b T vs := h
theorem Blk.set {w : World} {b : Nat} {T : TypeId} {vs : List Value} (h : Blk w b T vs) (j : Nat) (v : Value) : Blk (w.setCell ⟨b, j, none⟩ v) b T (vs.set j v) := by
  unfold Blk at *
  have hl := Blk.lt (w := w) (b := b) (T := T) (vs := vs) h
  simp only [World.setCell, Array.getElem?_modify, h]
  simp
theorem Blk.other {w : World} {b : Nat} {T : TypeId} {vs : List Value} (h : Blk w b T vs) {a : Addr} (ha : b ≠ a.block) (v : Value) : Blk (w.setCell a v) b T vs := by
  unfold Blk at *; rw [Below.heap_setCell _ _ _ _ ha]; exact h
theorem Blk.grown {w w' : World} {b : Nat} {T : TypeId} {vs : List Value} (h : Blk w b T vs) {row : Option Nat} (hg : w.grownBy w' row) (hr : some b ≠ row) : Blk w' b T vs := by
  have hl := h.lt
  unfold Blk at *; rw [hg.block b hl hr]; exact h
theorem Blk.below {w w' : World} {b B : Nat} {T : TypeId} {vs : List Value} (h : Blk w b T vs) (hg : Below B w w') (hr : b < B) : Blk w' b T vs := by
  unfold Blk at *; rw [hg.block b hr]; exact h
theorem rot_arg (n : Nat) (h0 : 1 ≤ n) (h1 : n ≤ 31) : bits BinOp.and IntKind.u64 (IntKind.u64.wrap (-(n : Int))) 31 = 32 - (n : Int) := by
  rw [IntKind.wrap_u64, show (-(n : Int)) % 18446744073709551616 = ((18446744073709551616 - n : Nat) : Int) by omega]
  rw [show (31 : Int) = ((31 : Nat) : Int) by rfl, u64_and_nat _ _ (by omega) (by omega), nat_mask5]
  omega
set_option maxHeartbeats 400000 in
theorem rot_gen (x s : Int) (k : Int) (w : World) (hs : bits BinOp.and IntKind.u64 (IntKind.u64.wrap k) 31 = s) (h0 : 0 ≤ s) (h1 : s ≤ 31)  :
    Calls Tryd.prog 44 #[.int .u32 x, .int .i64 k] w fun e w' => e = .returned (.int .u32 (bits .or .u32 (x * 2 ^ s.toNat % 4294967296) (x / 2 ^ (32 - s).toNat))) ∧ w = w' := by
  have h2 : ¬ s < 0 := by omega
  have h3 : ¬ 32 - s < 0 := by omega
  have h4 : min s.toNat 32 = s.toNat := by omega
  have h5 : min (32 - s).toNat 32 = (32 - s).toNat := by omega
  have h6 : IntKind.u64.wrap (32 - s) = 32 - s := by rw [IntKind.wrap_u64]; omega
  go_enter Tryd.func44, Tryd.ntmps44
  go_wp2
  go_ret
  exact ⟨rfl, rfl⟩
theorem rot_any (x : BitVec 32) (n : Nat) (w : World) (h0 : 1 ≤ n) (h1 : n ≤ 31) :
    Calls Tryd.prog 44 #[.int .u32 (U x), .int .i64 (-(n : Int))] w fun e w' => e = .returned (.int .u32 (U (x.rotateRight n))) ∧ w = w' :=
  (rot_gen (U x) (32 - (n : Int)) _ w (rot_arg n h0 h1) (by omega) (by omega)).mono fun e w' ⟨he, hw⟩ => ⟨by
    rw [he, show (32 - (n : Int)).toNat = 32 - n by omega, show (32 - (32 - (n : Int))).toNat = n by omega, U_rot x n h0 h1], hw⟩
def trn (x : BitVec 32) (ns : List Nat) : BitVec 32 := ns.foldl (fun a n => a ^^^ x.rotateRight n) 0
theorem trn_snoc (x : BitVec 32) (ns : List Nat) (k : Nat) (h : k < ns.length) : trn x (ns.take (k + 1)) = trn x (ns.take k) ^^^ x.rotateRight (ns.getD k 0) := by
  unfold trn; rw [List.take_succ_eq_append_getElem h, List.foldl_append]; simp [h]
set_option maxHeartbeats 400000 in
theorem turned_any (x : BitVec 32) (ns : List Nat) (b o cap : Nat) (w : World) (hl : ns.length ≤ 100) (hn : ∀ n ∈ ns, 1 ≤ n ∧ n ≤ 31)
    (hc : ∀ k, k < ns.length → w.cell? ⟨b, o + k, none⟩ = some (.int .i64 ((ns.getD k 0 : Nat) : Int))) :
    Calls Tryd.prog 40 #[.int .u32 (U x), .slice (some ⟨b, o, none⟩) ns.length cap] w fun e w' => e = .returned (.int .u32 (U (trn x ns))) ∧ w = w' := by
  go_enter Tryd.func40, Tryd.ntmps40
  go_wp2
  go_loop [5, 10] (fun t i => ∃ k : Nat, k ≤ ns.length ∧ i = .int .i64 k ∧ t = .int .u32 (U (trn x (ns.take k)))) (fun _ i => ns.length - (intOf i).toNat)
  case atStart => exact ⟨0, Nat.zero_le _, rfl, rfl⟩
  case round =>
    obtain ⟨k, hk, rfl, rfl⟩ := hrel
    by_cases hlt : k < ns.length
    · have hck := hc k hlt
      obtain ⟨n, hnk⟩ : ∃ n, n = ns.getD k 0 := ⟨_, rfl⟩
      have hb : 1 ≤ n ∧ n ≤ 31 := by rw [hnk]; exact hn _ (by simp [hlt])
      have HS := Lib.hid (trn_snoc x ns k hlt)
      rw [← hnk] at hck HS
      have HX := Lib.hid hn
      clear hnk hc hn
      obtain ⟨hb1, hb2⟩ := hb
      have hxor := U_xor
      go_wp2_with (go_at_call 44; refine (rot_any x n _ (by assumption) (by assumption)).mono ?_; rintro e w' ⟨rfl, rfl⟩)
      go_round
      case rel => exact ⟨k + 1, by omega, by go_num, by rw [HS.out]⟩
      case measure => simp [intOf]; omega
    · go_wp2
      go_ret
      rw [List.take_of_length_le (by omega)]
      exact ⟨rfl, rfl⟩
end Go.Proofs.YtjbjkddgefiicaaDoor
