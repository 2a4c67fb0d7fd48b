/- What sha512.schedule returns: the eighty words of a block. -/
import Derived.Test.YtffngfjbaimbhaaDoorSb
import Derived.StillTailTactics
import Derived.Outline
namespace Go.Proofs.YtffngfjbaimbhaaDoor
open Go.RowKit
set_option linter.unusedVariables false
set_option linter.unusedSimpArgs false
def vws (l : List (BitVec 64)) : List Value := l.map fun x => Value.int .u64 (V x)
theorem vws_at {l : List (BitVec 64)} {j : Nat} (h : j < l.length) : (vws l)[j]? = some (.int .u64 (V (l.getD j 0))) := by
  unfold vws; simp [h]
theorem vws_set (l : List (BitVec 64)) (j : Nat) (x : BitVec 64) : (vws l).set j (.int .u64 (V x)) = vws (l.set j x) := by
  unfold vws; rw [List.map_set]
theorem vws_len (l : List (BitVec 64)) : (vws l).length = l.length := by simp [vws]
theorem vws_one (l : List (BitVec 64)) : ∀ v ∈ vws l, v.oneCell' = true := by
  intro v hv
  simp only [vws, List.mem_map] at hv
  obtain ⟨x, _, rfl⟩ := hv
  rfl
/-- The next word of a schedule of which L are laid. -/
def nxt (C : List (BitVec 8)) (L : List (BitVec 64)) : BitVec 64 :=
  if L.length < 16 then wd ((C.drop (8 * L.length)).take 8)
  else lo1 (L.getD (L.length - 2) 0) + L.getD (L.length - 7) 0 + lo0 (L.getD (L.length - 15) 0) + L.getD (L.length - 16) 0
def sch (C : List (BitVec 8)) : Nat → List (BitVec 64)
  | 0 => []
  | t + 1 => sch C t ++ [nxt C (sch C t)]
theorem sch_len (C : List (BitVec 8)) : ∀ t, (sch C t).length = t
  | 0 => rfl
  | t + 1 => by simp [sch, sch_len C t]
/-- The schedule's array when t words are laid. -/
def arr (C : List (BitVec 8)) (t : Nat) : List (BitVec 64) := sch C t ++ List.replicate (80 - t) 0
theorem arr_len (C : List (BitVec 8)) (t : Nat) (h : t ≤ 80) : (arr C t).length = 80 := by simp [arr, sch_len]; omega
theorem arr_get (C : List (BitVec 8)) (t j : Nat) (h : j < t) : (arr C t).getD j 0 = (sch C t).getD j 0 := by
  unfold arr; simp [List.getD, List.getElem?_append_left (show j < (sch C t).length by rw [sch_len]; exact h)]
theorem arr_set (C : List (BitVec 8)) (t : Nat) (h : t < 80) : (arr C t).set t (nxt C (sch C t)) = arr C (t + 1) := by
  unfold arr
  rw [show 80 - t = (80 - (t + 1)) + 1 by omega, List.replicate_succ, List.set_append_right _ _ (by rw [sch_len]; omega), sch_len, Nat.sub_self]
  simp [sch]
def Z80 : List (BitVec 64) := List.replicate 80 0
theorem zero55 : ∀ w, (zeroValue 55).run Tryd.prog w = .ok (.agg (vws Z80).toArray) w := fun _ => by kernel_rfl
theorem info55 : (Tryd.prog.info? 55).map (·.size) = some 80 := by kernel_rfl
theorem i55 {vs : List Value} (h : vs.length = 80) : (Tryd.prog.info? 55).map (·.size) = some vs.length := by rw [h]; exact info55
theorem slice46 (b k : Nat) (h : k ≤ 15) (w : World) : (Instr.sliceAt 46 (.pointer (some ⟨b, 0, none⟩)) (some (.int .i64 (8 * (k : Int)))) none none).run Tryd.prog w = .ok (.slice (some ⟨b, 8 * k, none⟩) (128 - 8 * k) (128 - 8 * k)) w := by
  have hl : Tryd.prog.arrayLen 46 = 128 := by kernel_rfl
  have hs : (sizeOf (Tryd.prog.elem 46)).run Tryd.prog w = .ok 1 w := by kernel_rfl
  rw [run_sliceAt_array_l w 46 _ (by kernel_rfl) .i64 (8 * (k : Int)) (by omega) (by rw [hl]; omega), hs, hl]
  simp only [Result.andThen_ok, slicedAt]
  rw [show (8 * (k : Int)).toNat = 8 * k by omega, if_neg (by omega), Nat.mul_one, Addr.add_mid, Nat.zero_add]
theorem below_setCells' {B b : Nat} (hB : B ≤ b) {w0 w : World} (us : List Value) (h : Below B w0 w) : Below B w0 (w.setCells b 0 us) := below_setCells hB us 0 w h
structure Sd (w : World) (C : List (BitVec 8)) (t : Nat) (wr : World) : Prop where
  a : Blk wr (w.heap.size + 2) 55 (vws (arr C t))
  c : Blk wr w.heap.size 46 (vbs C)
  r : Blk wr (w.heap.size + 1) 55 (vws Z80)
  bel : Below w.heap.size w wr
theorem Sd.step {w wr : World} {C : List (BitVec 8)} {t : Nat} (h : Sd w C t wr) (ht : t < 80) {x : BitVec 64} (hx : x = nxt C (sch C t)) : Sd w C (t + 1) (wr.setCell ⟨w.heap.size + 2, t, none⟩ (.int .u64 (V x))) :=
  { a := by have := h.a.set t (.int .u64 (V x)); rw [vws_set, hx, arr_set C t ht] at this; rw [hx]; exact this
    c := h.c.other (a := ⟨w.heap.size + 2, t, none⟩) (by show w.heap.size ≠ w.heap.size + 2; omega) _
    r := h.r.other (a := ⟨w.heap.size + 2, t, none⟩) (by show w.heap.size + 1 ≠ w.heap.size + 2; omega) _
    bel := h.bel.setCell (by show w.heap.size ≤ w.heap.size + 2; omega) _ }
theorem Sd.drew {w wr : World} {C : List (BitVec 8)} {t : Nat} (h : Sd w C t wr) : Sd w C t wr.drew := ⟨h.a, h.c, h.r, h.bel.drew⟩
set_option maxRecDepth 100000 in
set_option maxHeartbeats 2000000 in
theorem schedule_any (C : List (BitVec 8)) (hC : C.length = 128) (w : World) :
    Calls Tryd.prog 30 #[.agg (vbs C).toArray] w fun e w' => e = .returned (.agg (vws (sch C 80)).toArray) ∧ Below w.heap.size w w' := by
  have hz := zero55
  have h0 := ((Blk.new w 46 (vbs C).toArray).alloc (.cells (vws Z80).toArray 55)).alloc (.cells (vws Z80).toArray 55)
  have h1 := (Blk.new (w.alloc (.cells (vbs C).toArray 46)) 55 (vws Z80).toArray).alloc (.cells (vws Z80).toArray 55)
  have h2 := Blk.new ((w.alloc (.cells (vbs C).toArray 46)).alloc (.cells (vws Z80).toArray 55)) 55 (vws Z80).toArray
  have hb : Below w.heap.size w (((w.alloc (.cells (vbs C).toArray 46)).alloc (.cells (vws Z80).toArray 55)).alloc (.cells (vws Z80).toArray 55)) := (((Below.refl _ _).alloc (Nat.le_refl _) _).alloc (by simp) _).alloc (by simp; omega) _
  rw [show (w.alloc (.cells (vbs C).toArray 46)).heap.size = w.heap.size + 1 by simp] at h1
  rw [show ((w.alloc (.cells (vbs C).toArray 46)).alloc (.cells (vws Z80).toArray 55)).heap.size = w.heap.size + 2 by simp] at h2
  have HC := Lib.hid hC
  clear hC
  go_enter Tryd.func30, Tryd.ntmps30
  go_upto_region 2 with fail
  generalize ((w.alloc (.cells (vbs C).toArray 46)).alloc (.cells (vws Z80).toArray 55)).alloc (.cells (vws Z80).toArray 55) = W0 at h0 h1 h2 hb ⊢
  have HS := Lib.hid (⟨h2, h0, h1, hb⟩ : Sd w C 0 W0)
  clear h0 h1 h2 hb hz
  go_wp2_with fail
  go_loopw [6] (fun i wr => ∃ k : Nat, k ≤ 16 ∧ i = .int .i64 k ∧ Sd w C k wr) (fun i _ => 16 - (intOf i).toNat)
  case atStart => exact ⟨0, Nat.zero_le _, rfl, HS.out⟩
  case round =>
    obtain ⟨k, hk, rfl, hS⟩ := hrel
    have HSr := Lib.hid hS
    clear HS
    by_cases hlt : k < 16
    · have hsl := slice46 w.heap.size k (by omega) wr
      have K27 : Hid (Calls Tryd.prog 27 #[.slice (some ⟨w.heap.size, 8 * k, none⟩) (128 - 8 * k) (128 - 8 * k)] wr fun e w' => e = .returned (.int .u64 (V (nxt C (sch C k)))) ∧ wr = w') := by
        have hcl := HC.out
        have e : nxt C (sch C k) = wd ((C.drop (8 * k)).take 8) := by unfold nxt; rw [sch_len, if_pos hlt]
        rw [e]
        refine word_any ((C.drop (8 * k)).take 8) w.heap.size (8 * k) _ _ wr (by rw [List.length_take, List.length_drop]; omega) (by omega) (Nat.le_refl _) fun j hj => ?_
        rw [hS.c.cell (vbs_at (l := C) (j := 8 * k + j) (by omega))]
        simp [List.getD, List.getElem?_take, List.getElem?_drop, hj]
      have c0 := hS.a.cell (vws_at (l := arr C k) (j := k) (by rw [arr_len C k (by omega)]; omega))
      have f0 := hS.a.free k
      have k0 : (0 : Int) ≤ (k : Int) := by omega
      have k1 : (k : Int) < 16 := by omega
      have hk80 : (k : Int) < 80 := by omega
      clear hS
      go_wp2_with (go_at_call 27; (with_reducible refine K27.out.mono ?_); rintro e w' ⟨rfl, rfl⟩; dsimp only)
      go_roundw
      case rel => exact ⟨k + 1, by omega, by go_num, HSr.out.step (by omega) rfl⟩
      case measure => simp [intOf]; omega
    · obtain rfl : k = 16 := by omega
      clear hS
      obtain ⟨wo, rfl⟩ : ∃ wo : World, wo = wr := ⟨_, rfl⟩
      rw [show (((16 : Nat)) : Int) = (16 : Int) from rfl]
      go_wp2_with fail
      go_loopw [5] (fun i wr => ∃ k : Nat, 16 ≤ k ∧ k ≤ 80 ∧ i = .int .i64 k ∧ Sd w C k wr) (fun i _ => 80 - (intOf i).toNat)
      case atStart => exact ⟨16, Nat.le_refl _, by omega, rfl, HSr.out⟩
      case round =>
        obtain ⟨k, hk16, hk, rfl, hS⟩ := hrel
        clear HSr
        have HSr := Lib.hid hS
        by_cases hlt : k < 80
        · go_upto_region 10 with fail
          refine wp_region_still_tail 23 (by kernel_rfl) (by kernel_rfl) ?_
          change wpStill _ _ wr.drew (fun a' => wpList _ _ _ _ a' wr.drew) _ _
          have hSd := hS.drew
          have hl := arr_len C k hk
          have gt : ∀ j, j < k → wr.drew.cell? ⟨w.heap.size + 1 + 1, j, none⟩ = some (.int .u64 (V ((sch C k).getD j 0))) := fun j hj => by
            show wr.drew.cell? ⟨w.heap.size + 2, j, none⟩ = _
            rw [hSd.a.cell (vws_at (l := arr C k) (j := j) (by omega)), arr_get C k j hj]
          have c2 := gt (k - 2) (by omega)
          have c7 := gt (k - 7) (by omega)
          have c15 := gt (k - 15) (by omega)
          have c16 := gt (k - 16) (by omega)
          have hnx : nxt C (sch C k) = lo1 ((sch C k).getD (k - 2) 0) + (sch C k).getD (k - 7) 0 + lo0 ((sch C k).getD (k - 15) 0) + (sch C k).getD (k - 16) 0 := by
            unfold nxt; rw [sch_len, if_neg (by omega)]
          obtain ⟨x2, h2⟩ : ∃ x, x = (sch C k).getD (k - 2) 0 := ⟨_, rfl⟩
          obtain ⟨x7, h7⟩ : ∃ x, x = (sch C k).getD (k - 7) 0 := ⟨_, rfl⟩
          obtain ⟨x15, h15⟩ : ∃ x, x = (sch C k).getD (k - 15) 0 := ⟨_, rfl⟩
          obtain ⟨x16, h16⟩ : ∃ x, x = (sch C k).getD (k - 16) 0 := ⟨_, rfl⟩
          rw [← h2] at c2 hnx
          rw [← h7] at c7 hnx
          rw [← h15] at c15 hnx
          rw [← h16] at c16 hnx
          have c0 : wr.drew.cell? ⟨w.heap.size + 1 + 1, k, none⟩ = _ := hSd.a.cell (vws_at (l := arr C k) (j := k) (by omega))
          have f0 : wr.drew.frozen? ⟨w.heap.size + 1 + 1, k, none⟩ = false := hSd.a.free k
          have hadd := V_add
          have k0 : (0 : Int) ≤ (k : Int) := by omega
          have k1 : (k : Int) < 80 := by omega
          have k16 : (16 : Int) ≤ (k : Int) := by omega
          have HSd := Lib.hid hSd
          have HNx := Lib.hid hnx
          have K36 : Hid (∀ W, Calls Tryd.prog 36 #[.int .u64 (V x2)] W fun e w' => e = .returned (.int .u64 (V (lo1 x2))) ∧ w' = W) := fun W => (lo1_any x2 W).mono fun _ _ ⟨a, b⟩ => ⟨a, b.symm⟩
          have K37 : Hid (∀ W, Calls Tryd.prog 37 #[.int .u64 (V x15)] W fun e w' => e = .returned (.int .u64 (V (lo0 x15))) ∧ w' = W) := fun W => (lo0_any x15 W).mono fun _ _ ⟨a, b⟩ => ⟨a, b.symm⟩
          generalize wr.drew = Wd at HSd c0 f0 c2 c7 c15 c16 ⊢
          clear hS hSd hl gt hnx h2 h7 h15 h16 HSr
          have a2 : IntKind.i64.wrap ((k : Int) - 2) = (k : Int) - 2 := IntWalk.i64_in _ (by omega)
          have b2 : ((k : Int) - 2).toNat = k - 2 := by omega
          have d2 : (2 : Int) ≤ (k : Int) := by omega
          have e2 : (k : Int) - 2 < 80 := by omega
          have a7 : IntKind.i64.wrap ((k : Int) - 7) = (k : Int) - 7 := IntWalk.i64_in _ (by omega)
          have b7 : ((k : Int) - 7).toNat = k - 7 := by omega
          have d7 : (7 : Int) ≤ (k : Int) := by omega
          have e7 : (k : Int) - 7 < 80 := by omega
          have a15 : IntKind.i64.wrap ((k : Int) - 15) = (k : Int) - 15 := IntWalk.i64_in _ (by omega)
          have b15 : ((k : Int) - 15).toNat = k - 15 := by omega
          have d15 : (15 : Int) ≤ (k : Int) := by omega
          have e15 : (k : Int) - 15 < 80 := by omega
          have a16 : IntKind.i64.wrap ((k : Int) - 16) = (k : Int) - 16 := IntWalk.i64_in _ (by omega)
          have b16 : ((k : Int) - 16).toNat = k - 16 := by omega
          have d16 : (16 : Int) ≤ (k : Int) := by omega
          have e16 : (k : Int) - 16 < 80 := by omega
          simp only [List.take_succ_cons, List.take_zero, List.drop_succ_cons, List.drop_zero]
          iterate 5 still_step
          still_call (K36.out _)
          iterate 9 still_step
          still_call (K37.out _)
          iterate 7 still_step
          refine wpStill_nil ?_
          clear a2 a7 a15 a16 b2 b7 b15 b16 d2 d7 d15 d16 e2 e7 e15 e16
          clear hadd c2 c7 c15 c16
          go_wp2

          go_roundw
          case rel => exact ⟨k + 1, by omega, by omega, by go_num, by rw [← HNx.out]; exact HSd.out.step hlt rfl⟩
          case measure => simp [intOf]; omega
        · obtain rfl : k = 80 := by omega
          have ha : Blk wr (w.heap.size + 1 + 1) 55 (vws (sch C 80)) := by
            have := hS.a
            rw [show arr C 80 = sch C 80 by simp [arr]] at this
            exact this
          have HRg := Lib.hid ha.range
          have hlen : (vws (sch C 80)).length = 80 := by rw [vws_len, sch_len]
          have HTh : Hid (wr.there (w.heap.size + 1) 0 80) := hS.r.there
          have HLn := Lib.hid hlen
          have HI := Lib.hid (i55 hlen)
          have Hr := Lib.hid hS.r
          have Hb := Lib.hid hS.bel
          generalize hD : sch C 80 = D at HRg HLn HI
          clear hS ha hlen HSr
          go_wp2_with (first
            | (with_reducible refine wpList_load_mid rfl 55 (.tmp 3) rfl (w.heap.size + 1 + 1) 0 rfl (vws D) _ HRg.out Tryd.underlying55 rfl HI.out ?_)
            | (with_reducible refine wpList_store_mid rfl 55 (.tmp 2) (.tmp 43) rfl (w.heap.size + 1) 0 (vws D).toArray rfl rfl (there_arr HTh.out HLn.out) (info_arr HI.out) (all_oneCell_toArray (vws_one _)) ?_))
          have hS2 := Hr.out.setCells (vws D) (by rw [HLn.out]; rfl)
          have hSb := below_setCells (show w.heap.size ≤ w.heap.size + 1 by omega) (vws D) 0 wr Hb.out
          have hlv := run_loadVar_mid (P := Tryd.prog) (wr.setCells (w.heap.size + 1) 0 (vws D)) (w.heap.size + 1) 0 55 _ _ hS2.range Tryd.underlying55 rfl HI.out
          exact bodyPost_ret (v := .agg (vws D).toArray) (by simp [results, Tryd.results30, asAddr, Act.put, hlv]) rfl ⟨by rw [hD], hSb⟩
end Go.Proofs.YtffngfjbaimbhaaDoor
