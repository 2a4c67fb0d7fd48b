/- What the document's own value, Of and Text return (package spinneyref01): the same as the program's. -/
import Derived.Test.YtjbjkddgefiicaaDoorAa
import Derived.Test.YtjbjkddgefiicaaDoorK
import Derived.Deep.RegionHeld3
import Derived.Deep.DeepCutAuto
namespace Go.Proofs.YtjbjkddgefiicaaDoor
open Go.RowKit
set_option linter.unusedVariables false
set_option linter.unusedSimpArgs false
theorem digit_ati (i : Nat) (hi : i < 16) (w : World) : (Instr.index 9 (.string { data := #[48, 49, 50, 51, 52, 53, 54, 55, 56, 57, 97, 98, 99, 100, 101, 102] }) (.int .i64 (i : Int))).run Tryd.prog w = .ok (.int .u8 (Bt (dig i))) w := by
  have : i = 0 ∨ i = 1 ∨ i = 2 ∨ i = 3 ∨ i = 4 ∨ i = 5 ∨ i = 6 ∨ i = 7 ∨ i = 8 ∨ i = 9 ∨ i = 10 ∨ i = 11 ∨ i = 12 ∨ i = 13 ∨ i = 14 ∨ i = 15 := by omega
  rcases this with rfl | rfl | rfl | rfl | rfl | rfl | rfl | rfl | rfl | rfl | rfl | rfl | rfl | rfl | rfl | rfl <;> rfl
theorem Bt_eq (x y : BitVec 8) : (Bt x == Bt y) = decide (x = y) := by
  by_cases h : x = y
  · subst h; simp
  · have : Bt x ≠ Bt y := fun e => h (BitVec.eq_of_toNat_eq (by unfold Bt at e; omega))
    simp [h, this]
set_option maxRecDepth 100000 in
set_option maxHeartbeats 1000000 in
theorem rvalue_any (c : BitVec 8) (w : World) :
    Calls Tryd.prog 31 #[.int .u8 (Bt c)] w fun e w' => e = .returned (.int .i64 (dval c)) ∧ w = w' := by
  go_enter Tryd.func31, Tryd.ntmps31
  go_wp2
  go_loop [3] (fun i => ∃ k : Nat, k ≤ 16 ∧ i = .int .i64 k ∧ ∀ j, j < k → dig j ≠ c) (fun i => 16 - (intOf i).toNat)
  case atStart => exact ⟨0, Nat.zero_le _, rfl, fun j hj => by omega⟩
  case round =>
    obtain ⟨k, hk, rfl, hno⟩ := hrel
    by_cases hlt : k < 16
    · have k1 : (k : Int) < 16 := by omega
      have g1 := digit_ati k hlt w
      have hq := Bt_eq (dig k) c
      have HN := Lib.hid hno
      clear hno
      by_cases hc : dig k = c
      · have e : dval c = (k : Int) := by rw [← hc, dval_dig k hlt]
        have hq' : (Bt (dig k) == Bt c) = true := by rw [hq]; simp [hc]
        clear hq
        go_wp2
        go_ret
        exact ⟨rfl, rfl⟩
      · have hq' : (Bt (dig k) == Bt c) = false := by rw [hq]; simp [hc]
        have HC := Lib.hid hc
        clear hq hc
        go_wp2
        go_round
        case rel => exact ⟨k + 1, by omega, by simp, fun j hj => by
          by_cases e : j = k
          · subst e; exact HC.out
          · exact HN.out j (by omega)⟩
        case measure => simp [intOf]; omega
    · have k1 : ¬ (k : Int) < 16 := by omega
      have e : dval c = -1 := by
        have hb := dval_bd c
        by_cases h0 : 0 ≤ dval c
        · exact absurd (dig_dval c h0) (hno _ (by omega))
        · omega
      clear hno
      go_wp2
      go_ret
      exact ⟨rfl, rfl⟩
theorem byteAt_val2 (s : ByteArray) (j : Nat) (h : okAt s j) : IntKind.u8.wrap (16 * hiOf s j + loOf s j) = Bt (byteAt s j) := by
  have h1 := byteAt_nat s j h
  have b1 := dval_bd (chr s (2 * j))
  have b2 := dval_bd (chr s (2 * j + 1))
  unfold okAt at h
  have b1' : hiOf s j ≤ 15 := b1.2
  have b2' : loOf s j ≤ 15 := b2.2
  rw [IntKind.wrap_u8']
  unfold Bt
  rw [h1]
  omega
set_option maxRecDepth 100000 in
set_option maxHeartbeats 2000000 in
theorem rof_any (s : ByteArray) (hs : s.size ≤ 4611686018427387903) (w : World) : Calls Tryd.prog 19 #[.string s] w (OfPost w s) := by
  have hz : ∀ w, (zeroValue 25).run Tryd.prog w = .ok (.agg (vbs Z32).toArray) w := fun _ => by kernel_rfl
  have hb0 : Below w.heap.size w ((w.alloc (Obj.cells (vbs Z32).toArray 25)).alloc (Obj.cells (vbs Z32).toArray 25)) := ((Below.refl _ _).alloc (Nat.le_refl _) _).alloc (by simp) _
  have s1 : (w.alloc (Obj.cells (vbs Z32).toArray 25)).heap.size = w.heap.size + 1 := by simp
  have h1 := Blk.new (w.alloc (Obj.cells (vbs Z32).toArray 25)) 25 (vbs Z32).toArray
  rw [s1, List.toList_toArray] at h1
  have h0 : Blk ((w.alloc (Obj.cells (vbs Z32).toArray 25)).alloc (Obj.cells (vbs Z32).toArray 25)) w.heap.size 25 (vbs Z32) := by
    have := (Blk.new w 25 (vbs Z32).toArray).alloc (Obj.cells (vbs Z32).toArray 25)
    rwa [List.toList_toArray] at this
  have hst : RelO w s (.int .i64 (0 : Nat)) ((w.alloc (Obj.cells (vbs Z32).toArray 25)).alloc (Obj.cells (vbs Z32).toArray 25)) :=
    ⟨0, by omega, rfl, fun j hj => by omega, hb0, h0, by rw [hv_zero]; exact h1⟩
  have HST := Lib.hid hst
  have H0 := Lib.hid h0
  have H1r := Lib.hid h1.range
  have HB := Lib.hid hb0
  have IZ := Lib.hid (i25 (vs := vbs Z32) rfl)
  clear hb0 s1 h1 h0 hst
  by_cases h64 : s.size = 64
  · have t1 : ((s.size : Int) == 64) = true := by rw [h64]; rfl
    have t2 : ((s.size : Int) != 64) = false := by rw [h64]; rfl
    have H64 := Lib.hid h64
    clear h64 H1r
    go_enter Tryd.func19, Tryd.ntmps19
    go_upto_region 4 with fail
    generalize (w.alloc (Obj.cells (vbs Z32).toArray 25)).alloc (Obj.cells (vbs Z32).toArray 25) = w3 at HST ⊢
    go_wp2_with fail
    go_loopw [5] (fun i wq => RelO w s i wq) (fun i _ => 32 - (intOf i).toNat)
    case atStart => exact HST.out
    case round =>
      obtain ⟨k, hk, rfl, ho, hb, h0, hB⟩ := hrel
      have HO := Lib.hid ho
      have HBe := Lib.hid hb
      have HZ := Lib.hid h0
      have HV := Lib.hid hB
      by_cases hlt : k < 32
      · have k0 : (0 : Int) ≤ (k : Int) := by omega
        have k1 : (k : Int) < 32 := by omega
        have k2 : IntKind.i64.wrap (2 * (k : Int)) = 2 * (k : Int) := IntWalk.i64_in _ (by omega)
        have k3 : IntKind.i64.wrap (2 * (k : Int) + 1) = 2 * (k : Int) + 1 := IntWalk.i64_in _ (by omega)
        have g1 := fun wz => chr_at s (2 * k) (by rw [H64.out]; omega) wz
        have g2 := fun wz => chr_at s (2 * k + 1) (by rw [H64.out]; omega) wz
        rw [show ((2 * k : Nat) : Int) = 2 * (k : Int) by omega] at g1
        rw [show ((2 * k + 1 : Nat) : Int) = 2 * (k : Int) + 1 by omega] at g2
        have c0 := hB.cell (vbs_at (l := hv s k) (j := k) (by rw [hv_len]; omega))
        have f0 := hB.free k
        have b1 := dval_bd (chr s (2 * k))
        have b2 := dval_bd (chr s (2 * k + 1))
        clear ho hb h0 hB HST hz
        go_wp2_with fail
        refine wp_calm_any ?_
        go_region_held3 (fun _ => True) (trivial) ((go_at_call 31; (with_reducible refine (rvalue_any _ _).mono ?_); rintro e w' ⟨rfl, rfl⟩; dsimp only))
        all_goals
          dsimp only [Exit.then]
          clear g1 g2 k2 k3
          obtain ⟨hi, hhi⟩ : ∃ hi, hi = dval (chr s (2 * k)) := ⟨_, rfl⟩
          obtain ⟨lo, hlo⟩ : ∃ lo, lo = dval (chr s (2 * k + 1)) := ⟨_, rfl⟩
          have hbv := byteAt_val2 s k
          unfold okAt hiOf loOf at hbv
          rw [← hhi, ← hlo] at hbv
          rw [← hhi, ← hlo]
          rw [← hhi] at b1
          rw [← hlo] at b2
          have HHI := Lib.hid hhi
          have HLO := Lib.hid hlo
          clear hhi hlo
          by_cases hh : 0 ≤ hi
          · have q1 : ¬ hi < 0 := by omega
            have q2 : (decide (hi < 0)) = false := by simp [q1]
            by_cases hl : 0 ≤ lo
            · have q3 : ¬ lo < 0 := by omega
              have q4 : (decide (lo < 0)) = false := by simp [q3]
              have hbv' := hbv ⟨hh, hl⟩
              have k4 : IntKind.i64.wrap (16 * hi) = 16 * hi := IntWalk.i64_in _ (by omega)
              have k5 : IntKind.i64.wrap (16 * hi + lo) = 16 * hi + lo := IntWalk.i64_in _ (by omega)
              clear hbv
              go_wp2_with fail
              go_roundw
              case rel =>
                have := (RelO.step hlt HO.out (show okAt s k from ⟨by unfold hiOf; rw [← HHI.out]; exact hh, by unfold loOf; rw [← HLO.out]; exact hl⟩) HBe.out HZ.out HV.out).drew
                exact this
              case measure => simp [intOf]; omega
            · have q3 : lo < 0 := by omega
              have q4 : (decide (lo < 0)) = true := by simp [q3]
              have hnot : Hid (¬ isName s) := fun hn => by
                have := (hn.2 k hlt).2
                unfold loOf at this
                rw [← HLO.out] at this
                exact hl this
              have hz : ∀ w, (zeroValue 25).run Tryd.prog w = .ok (.agg (vbs Z32).toArray) w := fun _ => by kernel_rfl
              have HTh : Hid (wr.drew.there w.heap.size 0 (vbs Z32).toArray.size) := HZ.out.there
              go_wp2_with (with_reducible refine wpList_store_mid rfl 25 (.tmp 2) (.tmp 33) rfl w.heap.size 0 (vbs Z32).toArray rfl rfl HTh.out (i25v Z32_len) (all_oneCell_toArray (vbs_one _)) ?_)
              have hS := (HZ.out.drew).setCells (vbs Z32) rfl
              have hSb := below_setCells (Nat.le_refl w.heap.size) (vbs Z32) 0 (wr.drew) (HBe.out.drew)
              generalize World.setCells (wr.drew) w.heap.size 0 (vbs Z32) = W8 at hS hSb
              have hlv := run_loadVar_mid (P := Tryd.prog) W8 w.heap.size 0 25 _ _ hS.range Tryd.underlying25 rfl (i25 (by rw [vbs_len]; exact Z32_len))
              exact bodyPost_ret (v := .tuple #[.agg (vbs Z32).toArray, .bool false]) (by simp [results, Tryd.results19, asAddr, hlv]) rfl ⟨fun h => absurd h hnot.out, fun _ => rfl, hSb⟩
          · have q1 : hi < 0 := by omega
            have q2 : (decide (hi < 0)) = true := by simp [q1]
            have hnot : Hid (¬ isName s) := fun hn => by
              have := (hn.2 k hlt).1
              unfold hiOf at this
              rw [← HHI.out] at this
              exact hh this
            have hz : ∀ w, (zeroValue 25).run Tryd.prog w = .ok (.agg (vbs Z32).toArray) w := fun _ => by kernel_rfl
            have HTh : Hid (wr.drew.there w.heap.size 0 (vbs Z32).toArray.size) := HZ.out.there
            go_wp2_with (with_reducible refine wpList_store_mid rfl 25 (.tmp 2) (.tmp 33) rfl w.heap.size 0 (vbs Z32).toArray rfl rfl HTh.out (i25v Z32_len) (all_oneCell_toArray (vbs_one _)) ?_)
            have hS := (HZ.out.drew).setCells (vbs Z32) rfl
            have hSb := below_setCells (Nat.le_refl w.heap.size) (vbs Z32) 0 (wr.drew) (HBe.out.drew)
            generalize World.setCells (wr.drew) w.heap.size 0 (vbs Z32) = W8 at hS hSb
            have hlv := run_loadVar_mid (P := Tryd.prog) W8 w.heap.size 0 25 _ _ hS.range Tryd.underlying25 rfl (i25 (by rw [vbs_len]; exact Z32_len))
            exact bodyPost_ret (v := .tuple #[.agg (vbs Z32).toArray, .bool false]) (by simp [results, Tryd.results19, asAddr, hlv]) rfl ⟨fun h => absurd h hnot.out, fun _ => rfl, hSb⟩
      · obtain rfl : k = 32 := by omega
        have hy : Hid (isName s) := ⟨H64.out, fun j hj => HO.out j hj⟩
        have HI := Lib.hid (i25 (vs := vbs (hv s 32)) (by rw [vbs_len, hv_len]))
        have HRg := Lib.hid hB.range
        have HTh : Hid (wr.there w.heap.size 0 (vbs (hv s 32)).toArray.size) := there_z h0 (hv_len _ _)
        clear hb h0 hB ho
        go_wp2_with (first | (with_reducible refine wpList_load_mid rfl 25 (.tmp 4) rfl (w.heap.size + 1) 0 rfl (vbs (hv s 32)) _ HRg.out Tryd.underlying25 rfl HI.out ?_) | (with_reducible refine wpList_store_mid rfl 25 (.tmp 2) (.tmp 41) rfl w.heap.size 0 (vbs (hv s 32)).toArray rfl rfl HTh.out (info_arr HI.out) (all_oneCell_toArray (vbs_one _)) ?_))
        have hS := HZ.out.setCells (vbs (hv s 32)) (by rw [vbs_len, hv_len, vbs_len, Z32_len])
        have hSb := below_setCells (Nat.le_refl w.heap.size) (vbs (hv s 32)) 0 wr HBe.out
        generalize wr.setCells w.heap.size 0 (vbs (hv s 32)) = W8 at hS hSb
        have hlv := run_loadVar_mid (P := Tryd.prog) W8 w.heap.size 0 25 _ _ hS.range Tryd.underlying25 rfl HI.out
        exact bodyPost_ret (v := .tuple #[.agg (vbs (hv s 32)).toArray, .bool true]) (by simp [results, Tryd.results19, asAddr, hlv]) rfl ⟨fun _ => rfl, fun h => absurd hy.out h, hSb⟩
  · have t1 : ((s.size : Int) == 64) = false := by simp; omega
    have t2 : ((s.size : Int) != 64) = true := by simp; omega
    have hnot : Hid (¬ isName s) := fun hn => h64 hn.1
    have HTh : Hid (((w.alloc (Obj.cells (vbs Z32).toArray 25)).alloc (Obj.cells (vbs Z32).toArray 25)).there w.heap.size 0 (vbs Z32).toArray.size) := H0.out.there
    clear h64
    go_enter Tryd.func19, Tryd.ntmps19
    go_wp2_with (first | (with_reducible refine wpList_load_mid rfl 25 (.tmp 4) rfl (w.heap.size + 1) 0 rfl (vbs Z32) _ H1r.out Tryd.underlying25 rfl IZ.out ?_) | (with_reducible refine wpList_store_mid rfl 25 (.tmp 2) (.tmp 11) rfl w.heap.size 0 (vbs Z32).toArray rfl rfl HTh.out (i25v Z32_len) (all_oneCell_toArray (vbs_one _)) ?_))
    have hS := (H0.out).setCells (vbs Z32) rfl
    have hSb := below_setCells (Nat.le_refl w.heap.size) (vbs Z32) 0 (((w.alloc (Obj.cells (vbs Z32).toArray 25)).alloc (Obj.cells (vbs Z32).toArray 25))) (HB.out)
    generalize World.setCells (((w.alloc (Obj.cells (vbs Z32).toArray 25)).alloc (Obj.cells (vbs Z32).toArray 25))) w.heap.size 0 (vbs Z32) = W8 at hS hSb
    have hlv := run_loadVar_mid (P := Tryd.prog) W8 w.heap.size 0 25 _ _ hS.range Tryd.underlying25 rfl (i25 (by rw [vbs_len]; exact Z32_len))
    exact bodyPost_ret (v := .tuple #[.agg (vbs Z32).toArray, .bool false]) (by simp [results, Tryd.results19, asAddr, hlv]) rfl ⟨fun h => absurd h hnot.out, fun _ => rfl, hSb⟩
end Go.Proofs.YtjbjkddgefiicaaDoor
