/- What sha.Of returns: of a text of 64 digits their bytes and true, of any other text noughts and false. -/
import Derived.Test.YtjbjkddgefiicaaDoorI
import Derived.Deep.DeepCutAuto
namespace Go.Proofs.YtjbjkddgefiicaaDoor
open Go.RowKit
set_option linter.unusedVariables false
set_option linter.unusedSimpArgs false
def hiOf (s : ByteArray) (j : Nat) : Int := dval (chr s (2 * j))
def loOf (s : ByteArray) (j : Nat) : Int := dval (chr s (2 * j + 1))
def okAt (s : ByteArray) (j : Nat) : Prop := 0 ≤ hiOf s j ∧ 0 ≤ loOf s j
def byteAt (s : ByteArray) (j : Nat) : BitVec 8 := BitVec.ofInt 8 (bits .or .i64 (hiOf s j * 16) (loOf s j))
theorem byteAt_val (s : ByteArray) (j : Nat) : IntKind.u8.wrap (bits .or .i64 (hiOf s j * 16) (loOf s j)) = Bt (byteAt s j) := by
  rw [IntKind.wrap_u8']
  unfold Bt byteAt
  rw [BitVec.toNat_ofInt]
  omega
/-- The digest behind k rounds. -/
def hv (s : ByteArray) (k : Nat) : List (BitVec 8) := (List.range 32).map fun j => if j < k then byteAt s j else 0
theorem hv_len (s : ByteArray) (k : Nat) : (hv s k).length = 32 := by simp [hv]
theorem hv_step (s : ByteArray) (k : Nat) (hk : k < 32) : (hv s k).set k (byteAt s k) = hv s (k + 1) := by
  apply List.ext_getElem
  · simp [hv]
  · intro i h1 h2
    simp only [hv, List.getElem_set, List.getElem_map, List.getElem_range]
    by_cases e : k = i
    · subst e; simp
    · simp only [e, if_false]
      by_cases h : i < k
      · rw [if_pos h, if_pos (by omega)]
      · rw [if_neg h, if_neg (by omega)]
theorem hv_zero (s : ByteArray) : hv s 0 = Z32 := by
  apply List.ext_getElem
  · rw [hv_len, Z32_len]
  · intro i h1 h2
    have e : Z32[i] = 0 := by unfold Z32; exact List.getElem_replicate _
    rw [e]
    simp [hv]
def isName (s : ByteArray) : Prop := s.size = 64 ∧ ∀ j, j < 32 → okAt s j
theorem chr_at (s : ByteArray) (i : Nat) (hi : i < s.size) (w : World) : (Instr.index 9 (.string s) (.int .i64 (i : Int))).run Tryd.prog w = .ok (.int .u8 (Bt (chr s i))) w := by
  rw [run_index_string w 9 s .i64 i Tryd.underlying9, dif_pos ⟨by omega, by omega⟩]
  have e : ((s[(i : Int).toNat]'(by omega)).toNat : Int) = Bt (chr s i) := by
    have hl : i < s.data.toList.length := by rw [Array.length_toList]; exact hi
    have e2 : s.data[i]? = some (s.data[i]'hi) := Array.getElem?_eq_getElem hi
    simp [chr, chr.bytesL, Bt, List.getD, hl, e2]
    rfl
  rw [e]
def RelO (w : World) (s : ByteArray) (i : Value) (wq : World) : Prop :=
  ∃ k : Nat, k ≤ 32 ∧ i = .int .i64 k ∧ (∀ j, j < k → okAt s j) ∧ Below w.heap.size w wq ∧ Blk wq w.heap.size 25 (vbs Z32) ∧ Blk wq (w.heap.size + 1) 25 (vbs (hv s k))
theorem RelO.step {w W : World} {s : ByteArray} {k : Nat} (hk : k < 32) (ho : ∀ j, j < k → okAt s j) (hok : okAt s k) (hb : Below w.heap.size w W) (h0 : Blk W w.heap.size 25 (vbs Z32)) (hB : Blk W (w.heap.size + 1) 25 (vbs (hv s k))) :
    RelO w s (.int .i64 ((k : Int) + 1)) (W.setCell ⟨w.heap.size + 1, k, none⟩ (.int .u8 (Bt (byteAt s k)))) := by
  refine ⟨k + 1, by omega, by simp, fun j hj => ?_, hb.setCell (by simp) _, h0.other (by simp) _, ?_⟩
  · by_cases e : j = k
    · subst e; exact hok
    · exact ho j (by omega)
  · have := hB.set k (.int .u8 (Bt (byteAt s k)))
    rwa [vbs_set, hv_step s k hk] at this
theorem RelO.drew {w W : World} {s : ByteArray} {i : Value} (h : RelO w s i W) : RelO w s i W.drew := by
  obtain ⟨k, h1, h2, h3, h4, h5, h6⟩ := h
  exact ⟨k, h1, h2, h3, h4.drew, h5, h6⟩
/-- What a text's digest is, and whether there is one. -/
def OfPost (w : World) (s : ByteArray) (e : Ending) (w' : World) : Prop :=
  (isName s → e = .returned (.tuple #[.agg (vbs (hv s 32)).toArray, .bool true])) ∧ (¬ isName s → e = .returned (.tuple #[.agg (vbs Z32).toArray, .bool false])) ∧ Below w.heap.size w w'
set_option maxRecDepth 100000 in
set_option maxHeartbeats 1000000 in
theorem of_any (s : ByteArray) (hs : s.size ≤ 4611686018427387903) (w : World) : Calls Tryd.prog 18 #[.string s] w (OfPost w s) := by
  have hz : ∀ w, (zeroValue 25).run Tryd.prog w = .ok (.agg (vbs Z32).toArray) w := fun _ => by kernel_rfl
  have hb0 : Below w.heap.size w ((w.alloc (Obj.cells (vbs Z32).toArray 25)).alloc (Obj.cells (vbs Z32).toArray 25)) := ((Below.refl _ _).alloc (Nat.le_refl _) _).alloc (by simp) _
  have s1 : (w.alloc (Obj.cells (vbs Z32).toArray 25)).heap.size = w.heap.size + 1 := by simp
  have h1 := Blk.new (w.alloc (Obj.cells (vbs Z32).toArray 25)) 25 (vbs Z32).toArray
  rw [s1, List.toList_toArray] at h1
  have h0 : Blk ((w.alloc (Obj.cells (vbs Z32).toArray 25)).alloc (Obj.cells (vbs Z32).toArray 25)) w.heap.size 25 (vbs Z32) := by
    have := (Blk.new w 25 (vbs Z32).toArray).alloc (Obj.cells (vbs Z32).toArray 25)
    rwa [List.toList_toArray] at this
  have hst : RelO w s (.int .i64 (0 : Nat)) ((w.alloc (Obj.cells (vbs Z32).toArray 25)).alloc (Obj.cells (vbs Z32).toArray 25)) :=
    ⟨0, by omega, rfl, fun j hj => by omega, hb0, h0, by rw [hv_zero]; exact h1⟩
  have HST := Lib.hid hst
  have H0 := Lib.hid h0
  have HB := Lib.hid hb0
  clear hb0 s1 h1 h0 hst
  by_cases h64 : s.size = 64
  · have t1 : ((s.size : Int) == 64) = true := by rw [h64]; rfl
    have t2 : ((s.size : Int) != 64) = false := by rw [h64]; rfl
    have H64 := Lib.hid h64
    clear h64
    go_enter Tryd.func18, Tryd.ntmps18
    go_upto_region 4 with fail
    generalize (w.alloc (Obj.cells (vbs Z32).toArray 25)).alloc (Obj.cells (vbs Z32).toArray 25) = w3 at HST ⊢
    go_wp2_with fail
    go_loopw [12] (fun i wq => RelO w s i wq) (fun i _ => 32 - (intOf i).toNat)
    case atStart => exact HST.out
    case round =>
      obtain ⟨k, hk, rfl, ho, hb, h0, hB⟩ := hrel
      have HO := Lib.hid ho
      have HBe := Lib.hid hb
      have HZ := Lib.hid h0
      have HV := Lib.hid hB
      by_cases hlt : k < 32
      · have k0 : (0 : Int) ≤ (k : Int) := by omega
        have k1 : (k : Int) < 32 := by omega
        have k2 : IntKind.i64.wrap (2 * (k : Int)) = 2 * (k : Int) := IntWalk.i64_in _ (by omega)
        have k3 : IntKind.i64.wrap (2 * (k : Int) + 1) = 2 * (k : Int) + 1 := IntWalk.i64_in _ (by omega)
        have g1 := fun wz => chr_at s (2 * k) (by rw [H64.out]; omega) wz
        have g2 := fun wz => chr_at s (2 * k + 1) (by rw [H64.out]; omega) wz
        rw [show ((2 * k : Nat) : Int) = 2 * (k : Int) by omega] at g1
        rw [show ((2 * k + 1 : Nat) : Int) = 2 * (k : Int) + 1 by omega] at g2
        have c0 := hB.cell (vbs_at (l := hv s k) (j := k) (by rw [hv_len]; omega))
        have f0 := hB.free k
        have b1 := dval_bd (chr s (2 * k))
        have b2 := dval_bd (chr s (2 * k + 1))
        clear ho hb h0 hB HST hz
        go_wp2_with fail
        refine wp_calm_any ?_
        go_region_held3 (fun _ => True) (trivial) ((go_at_call 30; (with_reducible refine (ib_any _ _).mono ?_); rintro e w' ⟨rfl, rfl⟩; dsimp only))
        all_goals
          dsimp only [Exit.then]
          clear g1 g2 k2 k3
          obtain ⟨hi, hhi⟩ : ∃ hi, hi = dval (chr s (2 * k)) := ⟨_, rfl⟩
          obtain ⟨lo, hlo⟩ : ∃ lo, lo = dval (chr s (2 * k + 1)) := ⟨_, rfl⟩
          have hbv := byteAt_val s k
          unfold hiOf loOf at hbv
          rw [← hhi, ← hlo] at hbv
          rw [← hhi, ← hlo]
          rw [← hhi] at b1
          rw [← hlo] at b2
          have HHI := Lib.hid hhi
          have HLO := Lib.hid hlo
          clear hhi hlo
          by_cases hh : 0 ≤ hi
          · by_cases hl : 0 ≤ lo
            · go_wp2_with fail
              go_roundw
              case rel =>
                have := (RelO.step hlt HO.out (show okAt s k from ⟨by unfold hiOf; rw [← HHI.out]; exact hh, by unfold loOf; rw [← HLO.out]; exact hl⟩) HBe.out HZ.out HV.out).drew
                exact this
              case measure => simp [intOf]; omega
            · skip
              have hnot : Hid (¬ isName s) := fun hn => by
                have := (hn.2 k hlt).2
                unfold loOf at this
                rw [← HLO.out] at this
                exact hl this
              have hz : ∀ w, (zeroValue 25).run Tryd.prog w = .ok (.agg (vbs Z32).toArray) w := fun _ => by kernel_rfl
              have HTh : Hid (wr.drew.there w.heap.size 0 (vbs Z32).toArray.size) := HZ.out.there
              go_wp2_with (with_reducible refine wpList_store_mid rfl 25 (.tmp 2) (.tmp 32) rfl w.heap.size 0 (vbs Z32).toArray rfl rfl HTh.out (i25v Z32_len) (all_oneCell_toArray (vbs_one _)) ?_)
              have hS := (HZ.out.drew).setCells (vbs Z32) rfl
              have hSb := below_setCells (Nat.le_refl w.heap.size) (vbs Z32) 0 (wr.drew) (HBe.out.drew)
              generalize World.setCells (wr.drew) w.heap.size 0 (vbs Z32) = W8 at hS hSb
              have hlv := run_loadVar_mid (P := Tryd.prog) W8 w.heap.size 0 25 _ _ hS.range Tryd.underlying25 rfl (i25 (by rw [vbs_len]; exact Z32_len))
              exact bodyPost_ret (v := .tuple #[.agg (vbs Z32).toArray, .bool false]) (by simp [results, Tryd.results18, asAddr, hlv]) rfl ⟨fun h => absurd h hnot.out, fun _ => rfl, hSb⟩
          · skip
            have hnot : Hid (¬ isName s) := fun hn => by
              have := (hn.2 k hlt).1
              unfold hiOf at this
              rw [← HHI.out] at this
              exact hh this
            have hz : ∀ w, (zeroValue 25).run Tryd.prog w = .ok (.agg (vbs Z32).toArray) w := fun _ => by kernel_rfl
            have HTh : Hid (wr.drew.there w.heap.size 0 (vbs Z32).toArray.size) := HZ.out.there
            go_wp2_with (with_reducible refine wpList_store_mid rfl 25 (.tmp 2) (.tmp 32) rfl w.heap.size 0 (vbs Z32).toArray rfl rfl HTh.out (i25v Z32_len) (all_oneCell_toArray (vbs_one _)) ?_)
            have hS := (HZ.out.drew).setCells (vbs Z32) rfl
            have hSb := below_setCells (Nat.le_refl w.heap.size) (vbs Z32) 0 (wr.drew) (HBe.out.drew)
            generalize World.setCells (wr.drew) w.heap.size 0 (vbs Z32) = W8 at hS hSb
            have hlv := run_loadVar_mid (P := Tryd.prog) W8 w.heap.size 0 25 _ _ hS.range Tryd.underlying25 rfl (i25 (by rw [vbs_len]; exact Z32_len))
            exact bodyPost_ret (v := .tuple #[.agg (vbs Z32).toArray, .bool false]) (by simp [results, Tryd.results18, asAddr, hlv]) rfl ⟨fun h => absurd h hnot.out, fun _ => rfl, hSb⟩
      · obtain rfl : k = 32 := by omega
        have hy : Hid (isName s) := ⟨H64.out, fun j hj => HO.out j hj⟩
        have HI := Lib.hid (i25 (vs := vbs (hv s 32)) (by rw [vbs_len, hv_len]))
        have HRg := Lib.hid hB.range
        have HTh : Hid (wr.there w.heap.size 0 (vbs (hv s 32)).toArray.size) := there_z h0 (hv_len _ _)
        clear hb h0 hB ho
        go_wp2_with (first | (with_reducible refine wpList_load_mid rfl 25 (.tmp 4) rfl (w.heap.size + 1) 0 rfl (vbs (hv s 32)) _ HRg.out Tryd.underlying25 rfl HI.out ?_) | (with_reducible refine wpList_store_mid rfl 25 (.tmp 2) (.tmp 41) rfl w.heap.size 0 (vbs (hv s 32)).toArray rfl rfl HTh.out (info_arr HI.out) (all_oneCell_toArray (vbs_one _)) ?_))
        have hS := HZ.out.setCells (vbs (hv s 32)) (by rw [vbs_len, hv_len, vbs_len, Z32_len])
        have hSb := below_setCells (Nat.le_refl w.heap.size) (vbs (hv s 32)) 0 wr HBe.out
        generalize wr.setCells w.heap.size 0 (vbs (hv s 32)) = W8 at hS hSb
        have hlv := run_loadVar_mid (P := Tryd.prog) W8 w.heap.size 0 25 _ _ hS.range Tryd.underlying25 rfl HI.out
        exact bodyPost_ret (v := .tuple #[.agg (vbs (hv s 32)).toArray, .bool true]) (by simp [results, Tryd.results18, asAddr, hlv]) rfl ⟨fun _ => rfl, fun h => absurd hy.out h, hSb⟩
  · have t1 : ((s.size : Int) == 64) = false := by simp; omega
    have t2 : ((s.size : Int) != 64) = true := by simp; omega
    have hnot : Hid (¬ isName s) := fun hn => h64 hn.1
    have HTh : Hid (((w.alloc (Obj.cells (vbs Z32).toArray 25)).alloc (Obj.cells (vbs Z32).toArray 25)).there w.heap.size 0 (vbs Z32).toArray.size) := H0.out.there
    clear h64
    go_enter Tryd.func18, Tryd.ntmps18
    go_wp2_with (with_reducible refine wpList_store_mid rfl 25 (.tmp 2) (.tmp 11) rfl w.heap.size 0 (vbs Z32).toArray rfl rfl HTh.out (i25v Z32_len) (all_oneCell_toArray (vbs_one _)) ?_)
    have hS := (H0.out).setCells (vbs Z32) rfl
    have hSb := below_setCells (Nat.le_refl w.heap.size) (vbs Z32) 0 (((w.alloc (Obj.cells (vbs Z32).toArray 25)).alloc (Obj.cells (vbs Z32).toArray 25))) (HB.out)
    generalize World.setCells (((w.alloc (Obj.cells (vbs Z32).toArray 25)).alloc (Obj.cells (vbs Z32).toArray 25))) w.heap.size 0 (vbs Z32) = W8 at hS hSb
    have hlv := run_loadVar_mid (P := Tryd.prog) W8 w.heap.size 0 25 _ _ hS.range Tryd.underlying25 rfl (i25 (by rw [vbs_len]; exact Z32_len))
    exact bodyPost_ret (v := .tuple #[.agg (vbs Z32).toArray, .bool false]) (by simp [results, Tryd.results18, asAddr, hlv]) rfl ⟨fun h => absurd h hnot.out, fun _ => rfl, hSb⟩
end Go.Proofs.YtjbjkddgefiicaaDoor
