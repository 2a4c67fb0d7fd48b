/- What merkle.hashed returns, over a double digest of which only its contract is known; lists of hashes that lie in memory, and rows of the call's own. -/
import Derived.Test.YtihbmahjdmfjpaaDoorFb
import Derived.Test.YtihbmahjdmfjpaaDoorXc
import Derived.Outline
import Derived.StillTailTactics
namespace Go.Proofs.YtihbmahjdmfjpaaDoor
open Go.RowKit
set_option linter.unusedVariables false
set_option linter.unusedSimpArgs false
set_option maxRecDepth 100000
/-- A double digest by its contract. -/
structure TwC (tw : List (BitVec 8) → List (BitVec 8)) : Prop where
  len : ∀ R, (tw R).length = 32
  call : ∀ (A : Option Addr) (cap : Nat) (R : List (BitVec 8)) (w : World), Glob w → Rd w w.heap.size A R → R.length ≤ cap → R.length < 1152921504606846976 → Calls Tryd.prog 37 #[.slice A R.length cap] w (VPost (.agg (vbs (tw R)).toArray) w)
theorem TwC.at {tw : List (BitVec 8) → List (BitVec 8)} (T : TwC tw) {A : Option Addr} {cap n : Nat} {R : List (BitVec 8)} {w : World} (hn : R.length = n) (hG : Glob w) (hR : Rd w w.heap.size A R) (hc : n ≤ cap) (hl : n < 1000000) : Calls Tryd.prog 37 #[.slice A n cap] w (VPost (.agg (vbs (tw R)).toArray) w) := by
  subst hn; exact T.call A cap R w hG hR hc (by omega)
theorem there_E {w : World} {b T n : Nat} {vs : List Value} {E : List (BitVec 8)} (h : Blk w b T vs) (hv : vs.length = n) (hE : E.length = n) : w.there b 0 (vbs E).toArray.size := by
  have := h.there
  rw [hv, ← hE] at this
  exact there_arr this (vbs_len E)
variable {tw : List (BitVec 8) → List (BitVec 8)}
set_option maxHeartbeats 2000000 in
theorem hashed_any (T : TwC tw) (t : List (BitVec 8)) (ht : t.length = 64) (w : World) (hG : Glob w) : Calls Tryd.prog 38 #[.agg (vbs t).toArray] w (VPost (.agg (vbs (tw t)).toArray) w) := by
  have hz := zero25
  have s1 := sl57_all
  have hbel : Below w.heap.size w ((w.alloc (.cells (vbs t).toArray 57)).alloc (.cells (vbs Z32).toArray 25)) := ((Below.refl _ _).alloc (Nat.le_refl _) _).alloc (by simp) _
  have b0 : Blk ((w.alloc (.cells (vbs t).toArray 57)).alloc (.cells (vbs Z32).toArray 25)) w.heap.size 57 (vbs t) := (Blk.new w 57 (vbs t).toArray).alloc _
  have b1 : Blk ((w.alloc (.cells (vbs t).toArray 57)).alloc (.cells (vbs Z32).toArray 25)) (w.heap.size + 1) 25 (vbs Z32) := by
    have := Blk.new (w.alloc (.cells (vbs t).toArray 57)) 25 (vbs Z32).toArray
    simpa using this
  obtain ⟨W, hW⟩ : ∃ W, W = ((w.alloc (.cells (vbs t).toArray 57)).alloc (.cells (vbs Z32).toArray 25)) := ⟨_, rfl⟩
  rw [← hW] at hbel b0 b1
  have HC := Lib.hid (T.at (cap := 64) ht (hG.below hbel) (Rd.of_blk b0) (Nat.le_refl _) (by omega))
  have HT := Lib.hid (T.len t)
  have HB1 := Lib.hid b1
  have HB := Lib.hid hbel
  have HW := Lib.hid hW
  clear hbel b0 b1 hG ht hW T
  obtain ⟨D, hD⟩ : ∃ D, D = tw t := ⟨_, rfl⟩
  rw [← hD] at HC HT ⊢
  clear hD
  go_enter Tryd.func38, Tryd.ntmps38
  go_upto_region 1 with fail
  rw [← HW.out]
  clear HW hz
  go_wp2_with (first | (go_at_call 37; (with_reducible refine HC.out.mono ?_); rintro e W2 ⟨rfl, hb⟩; have KT := Lib.hid (there_E (HB1.out.below hb HB1.out.lt) (by rw [vbs_len]; rfl) HT.out); have HB2 := Lib.hid hb; clear hb; dsimp only) | (with_reducible refine wpList_store_mid rfl 25 (.tmp 2) (.tmp 4) rfl (w.heap.size + 1) 0 (vbs D).toArray rfl rfl KT.out (i25a HT.out) (all_oneCell_toArray (vbs_one _)) ?_))
  have hS := (HB1.out.below HB2.out HB1.out.lt).setCells (vbs D) (by rw [vbs_len, vbs_len, HT.out]; rfl)
  have hlv := run_loadVar_mid (P := Tryd.prog) (W2.setCells (w.heap.size + 1) 0 (vbs D)) (w.heap.size + 1) 0 25 _ _ hS.range Tryd.underlying25 rfl (i25' (by rw [vbs_len]; exact HT.out))
  exact bodyPost_ret (v := .agg (vbs D).toArray) (by simp [results, Tryd.results38, asAddr, Act.put, hlv]) rfl ⟨rfl, below_setCells (by omega) _ _ _ (HB.out.trans (HB2.out.mono HB.out.size))⟩
end Go.Proofs.YtihbmahjdmfjpaaDoor
