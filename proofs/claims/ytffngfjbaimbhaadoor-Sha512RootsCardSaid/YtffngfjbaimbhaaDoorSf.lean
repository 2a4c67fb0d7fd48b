/- What sha512.padded returns. -/
import Derived.Test.YtffngfjbaimbhaaDoorSe
import Derived.Outline
namespace Go.Proofs.YtffngfjbaimbhaaDoor
open Go.RowKit
set_option linter.unusedVariables false
set_option linter.unusedSimpArgs false
/-- The bytes, a mark, noughts. -/
def padA (R : List (BitVec 8)) : List (BitVec 8) := (R ++ List.replicate (256 - R.length) 0).set R.length 0x80
theorem padA_len (R : List (BitVec 8)) (h : R.length ≤ 127) : (padA R).length = 256 := by simp [padA]; omega
def manyB (n : Nat) : Nat := if n + 17 ≤ 128 then 1 else 2
/-- The last blocks: the rest, its mark, and the number of bits. -/
def padB (R : List (BitVec 8)) (len : BitVec 64) : List (BitVec 8) := pw (pw (padA R) (128 * manyB R.length - 16) (len >>> 61) 8) (128 * manyB R.length - 8) (len <<< 3) 8
theorem padB_len (R : List (BitVec 8)) (len : BitVec 64) (h : R.length ≤ 127) : (padB R len).length = 256 := by unfold padB; rw [pw_len, pw_len, padA_len R h]
set_option maxRecDepth 100000 in
set_option maxHeartbeats 2000000 in
theorem padded_any (A : Option Addr) (cap : Nat) (R : List (BitVec 8)) (len : BitVec 64) (w : World) (hR : Rd w w.heap.size A R) (hn : R.length ≤ 127) :
    Calls Tryd.prog 23 #[.slice A R.length cap, .int .u64 (V len)] w fun e w' => e = .returned (.tuple #[.agg (vbs (padB R len)).toArray, .int .i64 (manyB R.length)]) ∧ Below w.heap.size w w' := by
  have hz := zero47
  have HR := Lib.hid hR
  obtain ⟨n, hnn⟩ : ∃ n, n = R.length := ⟨_, rfl⟩
  have HN := Lib.hid hnn
  rw [← hnn] at hn ⊢
  clear hR hnn
  by_cases hm : n + 17 ≤ 128
  · have hmi : ¬ (128 : Int) < (n : Int) + 1 + 16 := by omega
    have hM : ((manyB n : Nat) : Int) = 1 := by unfold manyB; rw [if_pos hm]; rfl
    rw [hM]
    clear hM
    go_enter Tryd.func23, Tryd.ntmps23
    go_upto_region 4 with fail
    generalize hw1 : w.alloc (.cells (vbs Z256).toArray 47) = w1
    have hB : Hid (w1.heap[w.heap.size]? = some (.cells (vbs Z256).toArray 47 (0, 0))) := by
      have := Blk.new w 47 (vbs Z256).toArray
      rw [← hw1]; exact this
    have hbel : Below w.heap.size w w1 := by rw [← hw1]; exact (Below.refl _ _).alloc (Nat.le_refl _) _
    have HBel := Lib.hid hbel
    clear hw1 hz
    have hsl := slice47all w.heap.size w1
    have c1 : Hid ((vbs R).length = Nat.min n 256) := show (vbs R).length = min n 256 by rw [vbs_len, ← HN.out]; omega
    have c2 : Hid (0 < (vbs R).length → (some (⟨w.heap.size, 0, none⟩ : Addr)) = some ⟨w.heap.size, 0, none⟩ ∧ ∃ ad : Addr, A = some ad ∧ ∀ j v, (vbs R)[j]? = some v → w1.cell? (ad.add j) = some v) := fun hp => by
      rw [vbs_len] at hp
      obtain ⟨b, o, e, hlt, hc⟩ := HR.out hp
      refine ⟨rfl, ⟨b, o, none⟩, e, fun j v hv => ?_⟩
      have hj : j < R.length := by have := (List.getElem?_eq_some_iff.1 hv).1; rwa [vbs_len] at this
      rw [vbs_at hj] at hv
      rw [Addr.add_mid, HBel.out.cell (p := ⟨b, o + j, none⟩) hlt, hc j hj]; exact hv
    have c3 : Hid (0 + (vbs R).length ≤ (vbs Z256).length) := show 0 + (vbs R).length ≤ (vbs Z256).length by rw [vbs_len, vbs_len, ← HN.out]; simp [Z256]; omega
    clear hbel
    go_upto_region 5 with (refine wpList_copy_splice (o := ⟨some 14, _, _, _, _, _⟩) rfl (.tmp 12) (.tmp 13) 22 22 rfl 5 Tryd.underlying22 (by kernel_rfl) (some ⟨w.heap.size, 0, none⟩) A 256 256 n cap rfl rfl w.heap.size 0 (vbs Z256) 47 hB.out (vbs R) c1.out c2.out c3.out (vbs_one R) w.heap.size w HBel.out (Nat.le_refl _) ?_; intro w2 hB2 hb2)
    have hB3 : Blk w2 w.heap.size 47 (vbs (R ++ List.replicate (256 - R.length) 0)) := by
      have h : splice (vbs Z256) 0 (vbs R) = vbs (R ++ List.replicate (256 - R.length) 0) := by unfold Z256; exact splice_pad 256 R
      rw [← h]; exact hB2
    have hE : (R ++ List.replicate (256 - R.length) (0 : BitVec 8)).length = 256 := by simp; have := HN.out; omega
    have st := hB3.cell (vbs_at (l := R ++ List.replicate (256 - R.length) 0) (j := n) (by omega))
    have sf := hB3.free n
    have H4 : Hid (Blk (w2.setCell ⟨w.heap.size, n, none⟩ (.int .u8 128)) w.heap.size 47 (vbs (padA R))) := by
      have := hB3.set n (.int .u8 (Bt 0x80)); rw [vbs_set] at this; unfold padA; rw [← HN.out] at this ⊢; exact this
    have Hb4 : Hid (Below w.heap.size w (w2.setCell ⟨w.heap.size, n, none⟩ (.int .u8 128))) := hb2.setCell (Nat.le_refl _) _
    clear hB hB2 hB3 hE hsl c1 c2 c3 hb2
    go_upto_region 6 with fail
    generalize w2.setCell ⟨w.heap.size, n, none⟩ (.int .u8 128) = w4 at H4 Hb4 ⊢
    clear st sf
    have hs2 : (Instr.sliceAt 47 (.pointer (some ⟨w.heap.size, 0, none⟩)) (some (.int .i64 112)) none none).run Tryd.prog w4 = .ok (.slice (some ⟨w.heap.size, 112, none⟩) 144 144) w4 := slice47 w.heap.size 112 (by omega) w4
    have K33a : Hid (Calls Tryd.prog 33 #[.slice (some ⟨w.heap.size, 112, none⟩) 144 144, .int .u64 (V (len >>> 61))] w4 (PwPost (padA R) 112 w.heap.size 47 (len >>> 61) w4)) :=
      putWord_any (padA R) _ _ 112 144 144 47 w4 H4.out (by rw [padA_len R (by have := HN.out; omega)]; omega) (by omega)
    have h61 : V len / (2305843009213693952 : Int) = V (len >>> 61) := V_shr len 61
    go_upto_region 8 with (go_at_call 33; (with_reducible refine K33a.out.mono ?_); rintro e w5 h112; obtain ⟨rfl, hB5, hG5⟩ := h112; have HB5 := Lib.hid hB5; have HG5 := Lib.hid hG5; clear hB5 hG5; dsimp only)
    have K33b : Hid (Calls Tryd.prog 33 #[.slice (some ⟨w.heap.size, 120, none⟩) 136 136, .int .u64 (V (len <<< 3))] w5 (PwPost (pw (padA R) 112 (len >>> 61) 8) 120 w.heap.size 47 (len <<< 3) w5)) :=
      putWord_any _ _ _ 120 136 136 47 w5 HB5.out (by rw [pw_len, padA_len R (by have := HN.out; omega)]; omega) (by omega)
    have h3 : IntKind.u64.wrap (V len * (8 : Int)) = V (len <<< 3) := V_shl len 3
    clear h61 hs2 K33a
    go_upto_region 9 with (go_at_call 33; (with_reducible refine K33b.out.mono ?_); rintro e w6 h112; obtain ⟨rfl, hB6, hG6⟩ := h112; have HB6 := Lib.hid hB6; have HG6 := Lib.hid hG6; clear hB6 hG6; dsimp only)
    have hl : (vbs (pw (pw (padA R) 112 (len >>> 61) 8) 120 (len <<< 3) 8)).length = 256 := by rw [vbs_len, pw_len, pw_len, padA_len R (by have := HN.out; omega)]
    have hD : pw (pw (padA R) 112 (len >>> 61) 8) 120 (len <<< 3) 8 = padB R len := by unfold padB manyB; rw [← HN.out, if_pos hm]
    rw [hD] at hl HB6
    have HL := Lib.hid hl
    have HI := Lib.hid (i47 hl)
    have HRg := Lib.hid HB6.out.range
    have HTh : Hid (w6.there w.heap.size 0 256) := by have := HB6.out.there; rwa [hl] at this
    have Hb6 : Hid (Below w.heap.size w w6) := (Hb4.out.grown HG5.out Hb4.out.size (fun k e => by cases e; exact Nat.le_refl _)).grown HG6.out (Nat.le_trans Hb4.out.size HG5.out.size) (fun k e => by cases e; exact Nat.le_refl _)
    generalize hDD : padB R len = D at HB6 HL HI HRg
    clear hl hD h3 K33b
    go_wp2_with (first
      | (with_reducible refine wpList_load_mid rfl 47 (.tmp 4) rfl w.heap.size 0 rfl (vbs D) _ HRg.out Tryd.underlying47 rfl HI.out ?_)
      | (with_reducible refine wpList_store_mid rfl 47 (.tmp 4) (.tmp 31) rfl w.heap.size 0 (vbs D).toArray rfl rfl (there_arr HTh.out HL.out) (info_arr HI.out) (all_oneCell_toArray (vbs_one _)) ?_))
    have hS2 := HB6.out.setCells (vbs D) rfl
    have hSb := below_setCells (Nat.le_refl w.heap.size) (vbs D) 0 w6 Hb6.out
    have hlv := run_loadVar_mid (P := Tryd.prog) (w6.setCells w.heap.size 0 (vbs D)) w.heap.size 0 47 _ _ hS2.range Tryd.underlying47 rfl HI.out
    exact bodyPost_ret (v := .tuple #[.agg (vbs D).toArray, .int .i64 1]) (by simp [results, Tryd.results23, asAddr, Act.put, hlv]) rfl ⟨by first | (rw [hDD]) | with_reducible rfl, hSb⟩
  · have hmi : (128 : Int) < (n : Int) + 1 + 16 := by omega
    have hM : ((manyB n : Nat) : Int) = 2 := by unfold manyB; rw [if_neg hm]; rfl
    rw [hM]
    clear hM
    go_enter Tryd.func23, Tryd.ntmps23
    go_upto_region 4 with fail
    generalize hw1 : w.alloc (.cells (vbs Z256).toArray 47) = w1
    have hB : Hid (w1.heap[w.heap.size]? = some (.cells (vbs Z256).toArray 47 (0, 0))) := by
      have := Blk.new w 47 (vbs Z256).toArray
      rw [← hw1]; exact this
    have hbel : Below w.heap.size w w1 := by rw [← hw1]; exact (Below.refl _ _).alloc (Nat.le_refl _) _
    have HBel := Lib.hid hbel
    clear hw1 hz
    have hsl := slice47all w.heap.size w1
    have c1 : Hid ((vbs R).length = Nat.min n 256) := show (vbs R).length = min n 256 by rw [vbs_len, ← HN.out]; omega
    have c2 : Hid (0 < (vbs R).length → (some (⟨w.heap.size, 0, none⟩ : Addr)) = some ⟨w.heap.size, 0, none⟩ ∧ ∃ ad : Addr, A = some ad ∧ ∀ j v, (vbs R)[j]? = some v → w1.cell? (ad.add j) = some v) := fun hp => by
      rw [vbs_len] at hp
      obtain ⟨b, o, e, hlt, hc⟩ := HR.out hp
      refine ⟨rfl, ⟨b, o, none⟩, e, fun j v hv => ?_⟩
      have hj : j < R.length := by have := (List.getElem?_eq_some_iff.1 hv).1; rwa [vbs_len] at this
      rw [vbs_at hj] at hv
      rw [Addr.add_mid, HBel.out.cell (p := ⟨b, o + j, none⟩) hlt, hc j hj]; exact hv
    have c3 : Hid (0 + (vbs R).length ≤ (vbs Z256).length) := show 0 + (vbs R).length ≤ (vbs Z256).length by rw [vbs_len, vbs_len, ← HN.out]; simp [Z256]; omega
    clear hbel
    go_upto_region 5 with (refine wpList_copy_splice (o := ⟨some 14, _, _, _, _, _⟩) rfl (.tmp 12) (.tmp 13) 22 22 rfl 5 Tryd.underlying22 (by kernel_rfl) (some ⟨w.heap.size, 0, none⟩) A 256 256 n cap rfl rfl w.heap.size 0 (vbs Z256) 47 hB.out (vbs R) c1.out c2.out c3.out (vbs_one R) w.heap.size w HBel.out (Nat.le_refl _) ?_; intro w2 hB2 hb2)
    have hB3 : Blk w2 w.heap.size 47 (vbs (R ++ List.replicate (256 - R.length) 0)) := by
      have h : splice (vbs Z256) 0 (vbs R) = vbs (R ++ List.replicate (256 - R.length) 0) := by unfold Z256; exact splice_pad 256 R
      rw [← h]; exact hB2
    have hE : (R ++ List.replicate (256 - R.length) (0 : BitVec 8)).length = 256 := by simp; have := HN.out; omega
    have st := hB3.cell (vbs_at (l := R ++ List.replicate (256 - R.length) 0) (j := n) (by omega))
    have sf := hB3.free n
    have H4 : Hid (Blk (w2.setCell ⟨w.heap.size, n, none⟩ (.int .u8 128)) w.heap.size 47 (vbs (padA R))) := by
      have := hB3.set n (.int .u8 (Bt 0x80)); rw [vbs_set] at this; unfold padA; rw [← HN.out] at this ⊢; exact this
    have Hb4 : Hid (Below w.heap.size w (w2.setCell ⟨w.heap.size, n, none⟩ (.int .u8 128))) := hb2.setCell (Nat.le_refl _) _
    clear hB hB2 hB3 hE hsl c1 c2 c3 hb2
    go_upto_region 6 with fail
    generalize w2.setCell ⟨w.heap.size, n, none⟩ (.int .u8 128) = w4 at H4 Hb4 ⊢
    clear st sf
    have hs2 : (Instr.sliceAt 47 (.pointer (some ⟨w.heap.size, 0, none⟩)) (some (.int .i64 240)) none none).run Tryd.prog w4 = .ok (.slice (some ⟨w.heap.size, 240, none⟩) 16 16) w4 := slice47 w.heap.size 240 (by omega) w4
    have K33a : Hid (Calls Tryd.prog 33 #[.slice (some ⟨w.heap.size, 240, none⟩) 16 16, .int .u64 (V (len >>> 61))] w4 (PwPost (padA R) 240 w.heap.size 47 (len >>> 61) w4)) :=
      putWord_any (padA R) _ _ 240 16 16 47 w4 H4.out (by rw [padA_len R (by have := HN.out; omega)]; omega) (by omega)
    have h61 : V len / (2305843009213693952 : Int) = V (len >>> 61) := V_shr len 61
    go_upto_region 8 with (go_at_call 33; (with_reducible refine K33a.out.mono ?_); rintro e w5 h240; obtain ⟨rfl, hB5, hG5⟩ := h240; have HB5 := Lib.hid hB5; have HG5 := Lib.hid hG5; clear hB5 hG5; dsimp only)
    have K33b : Hid (Calls Tryd.prog 33 #[.slice (some ⟨w.heap.size, 248, none⟩) 8 8, .int .u64 (V (len <<< 3))] w5 (PwPost (pw (padA R) 240 (len >>> 61) 8) 248 w.heap.size 47 (len <<< 3) w5)) :=
      putWord_any _ _ _ 248 8 8 47 w5 HB5.out (by rw [pw_len, padA_len R (by have := HN.out; omega)]; omega) (by omega)
    have h3 : IntKind.u64.wrap (V len * (8 : Int)) = V (len <<< 3) := V_shl len 3
    clear h61 hs2 K33a
    go_upto_region 9 with (go_at_call 33; (with_reducible refine K33b.out.mono ?_); rintro e w6 h240; obtain ⟨rfl, hB6, hG6⟩ := h240; have HB6 := Lib.hid hB6; have HG6 := Lib.hid hG6; clear hB6 hG6; dsimp only)
    have hl : (vbs (pw (pw (padA R) 240 (len >>> 61) 8) 248 (len <<< 3) 8)).length = 256 := by rw [vbs_len, pw_len, pw_len, padA_len R (by have := HN.out; omega)]
    have hD : pw (pw (padA R) 240 (len >>> 61) 8) 248 (len <<< 3) 8 = padB R len := by unfold padB manyB; rw [← HN.out, if_neg hm]
    rw [hD] at hl HB6
    have HL := Lib.hid hl
    have HI := Lib.hid (i47 hl)
    have HRg := Lib.hid HB6.out.range
    have HTh : Hid (w6.there w.heap.size 0 256) := by have := HB6.out.there; rwa [hl] at this
    have Hb6 : Hid (Below w.heap.size w w6) := (Hb4.out.grown HG5.out Hb4.out.size (fun k e => by cases e; exact Nat.le_refl _)).grown HG6.out (Nat.le_trans Hb4.out.size HG5.out.size) (fun k e => by cases e; exact Nat.le_refl _)
    generalize hDD : padB R len = D at HB6 HL HI HRg
    clear hl hD h3 K33b
    go_wp2_with (first
      | (with_reducible refine wpList_load_mid rfl 47 (.tmp 4) rfl w.heap.size 0 rfl (vbs D) _ HRg.out Tryd.underlying47 rfl HI.out ?_)
      | (with_reducible refine wpList_store_mid rfl 47 (.tmp 4) (.tmp 31) rfl w.heap.size 0 (vbs D).toArray rfl rfl (there_arr HTh.out HL.out) (info_arr HI.out) (all_oneCell_toArray (vbs_one _)) ?_))
    have hS2 := HB6.out.setCells (vbs D) rfl
    have hSb := below_setCells (Nat.le_refl w.heap.size) (vbs D) 0 w6 Hb6.out
    have hlv := run_loadVar_mid (P := Tryd.prog) (w6.setCells w.heap.size 0 (vbs D)) w.heap.size 0 47 _ _ hS2.range Tryd.underlying47 rfl HI.out
    exact bodyPost_ret (v := .tuple #[.agg (vbs D).toArray, .int .i64 2]) (by simp [results, Tryd.results23, asAddr, Act.put, hlv]) rfl ⟨by first | (rw [hDD]) | with_reducible rfl, hSb⟩
end Go.Proofs.YtffngfjbaimbhaaDoor
