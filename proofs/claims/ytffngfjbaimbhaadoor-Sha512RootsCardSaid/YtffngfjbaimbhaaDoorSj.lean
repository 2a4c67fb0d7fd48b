/- What sha512.Sum256 returns. -/
import Derived.Test.YtffngfjbaimbhaaDoorSi
import Derived.Outline
namespace Go.Proofs.YtffngfjbaimbhaaDoor
open Go.RowKit
set_option linter.unusedVariables false
set_option linter.unusedSimpArgs false
def Z32 : List (BitVec 8) := List.replicate 32 0
theorem zero29 : ∀ w, (zeroValue 29).run Tryd.prog w = .ok (.agg (vbs Z32).toArray) w := fun _ => by kernel_rfl
theorem info29 : (Tryd.prog.info? 29).map (·.size) = some 32 := by kernel_rfl
theorem i29 {vs : List Value} (h : vs.length = 32) : (Tryd.prog.info? 29).map (·.size) = some vs.length := by rw [h]; exact info29
theorem slice24all (b : Nat) (w : World) : (Instr.sliceAt 24 (.pointer (some ⟨b, 0, none⟩)) none none none).run Tryd.prog w = .ok (.slice (some ⟨b, 0, none⟩) 64 64) w := by
  rw [run_sliceAt_array_all w 24 _ (by kernel_rfl)]
  have hs : (sizeOf (Tryd.prog.elem 24)).run Tryd.prog w = .ok 1 w := by kernel_rfl
  have hl : Tryd.prog.arrayLen 24 = 64 := by kernel_rfl
  rw [hs, hl]
  rfl
theorem arr_at29 (a : Option Addr) (m c : Nat) (h : 32 ≤ m) (w : World) : (Instr.arrayAt 29 (.slice a m c)).run Tryd.prog w = .ok (.pointer a) w := by
  simp [Instr.arrayAt, run_underlying Tryd.underlying29, Nat.not_lt.2 h]
/-- SHA-512/256 of the bytes. -/
def shortB (R : List (BitVec 8)) : List (BitVec 8) := (digB ini256 R).take 32
theorem shortB_len (R : List (BitVec 8)) : (shortB R).length = 32 := by rw [shortB, List.length_take, digB_len]; rfl
set_option maxRecDepth 100000 in
set_option maxHeartbeats 1000000 in
theorem sum256_any (A : Option Addr) (cap : Nat) (R : List (BitVec 8)) (w : World) (hG : Glob w) (hR : Rd w w.heap.size A R) (hcap : R.length ≤ cap) (hc : cap ≤ 9223372036854775807) (hl : R.length < 1152921504606846976) :
    Calls Tryd.prog 10 #[.slice A R.length cap] w fun e w' => e = .returned (.agg (vbs (shortB R)).toArray) ∧ Below w.heap.size w w' := by
  have hz := zero24
  have hz2 := zero29
  have hsl := slice24all
  have hb : Below w.heap.size w (w.alloc (.cells (vbs Z32).toArray 29)) := (Below.refl _ _).alloc (Nat.le_refl _) _
  have hG1 := hG.below hb
  have hB := Blk.new w 29 (vbs Z32).toArray
  have hRk := hR.keep hb
  have K19 := Lib.hid (made_any _ hG1)
  have K16 : Hid (∀ w1, Below (w.alloc (.cells (vbs Z32).toArray 29)).heap.size (w.alloc (.cells (vbs Z32).toArray 29)) w1 → Calls Tryd.prog 16 #[.agg (stv ini256), .slice A R.length cap] w1 fun e w' => e = .returned (.agg (vbs (digB ini256 R)).toArray) ∧ Below w1.heap.size w1 w') := fun w1 hb1 =>
    digest_any ini256 A cap R w1 (hG1.below hb1) (fun hp => by
      obtain ⟨b, o, e, h1, h2⟩ := hRk hp
      have hlt : b < (w.alloc (.cells (vbs Z32).toArray 29)).heap.size := Nat.lt_of_lt_of_le h1 hb.size
      exact ⟨b, o, e, Nat.lt_of_lt_of_le hlt hb1.size, fun j hj => by rw [hb1.cell hlt]; exact h2 j hj⟩) hcap hc hl
  obtain ⟨J, hJ⟩ : ∃ J, J = digB ini256 R := ⟨_, rfl⟩
  have hJl : J.length = 64 := by rw [hJ]; exact digB_len _ _
  rw [show shortB R = J.take 32 by rw [shortB, ← hJ]]
  rw [← hJ] at K16
  obtain ⟨sv, hsv⟩ : ∃ sv, sv = stv ini256 := ⟨_, rfl⟩
  rw [← hsv] at K16 K19
  have HJl : Hid ((vbs J).length = 64) := by rw [vbs_len]; exact hJl
  have HI24 := Lib.hid (i24 HJl.out)
  have HKl : Hid ((vbs (J.take 32)).length = 32) := by rw [vbs_len, List.length_take, hJl]; rfl
  have HI29 := Lib.hid (i29 HKl.out)
  have HJn := Lib.hid hJl
  have HB := Lib.hid hB
  have Hb := Lib.hid hb
  obtain ⟨n, hn⟩ : ∃ n, n = R.length := ⟨_, rfl⟩
  rw [← hn] at K16 ⊢
  clear hG hR hcap hc hl hb hG1 hB hJ hJl hsv hn hRk
  go_enter Tryd.func10, Tryd.ntmps10
  go_upto_region 1 with fail
  generalize w.alloc (.cells (vbs Z32).toArray 29) = W0 at K16 K19 HB Hb ⊢
  clear hz2
  go_upto_region 2 with (first
    | (go_at_call 19; (with_reducible refine K19.out.mono ?_); rintro e w8 ⟨rfl, hb8⟩; have Hb8 := Lib.hid hb8; clear hb8; dsimp only)
    | (go_at_call 16; (with_reducible refine (K16.out _ Hb8.out).mono ?_); rintro e w9 ⟨rfl, hb9⟩; have Hb9 := Lib.hid hb9; have HTh9 : Hid ((w9.alloc (.cells (vbs Z64).toArray 24)).there w9.heap.size 0 64) := (Blk.new w9 24 (vbs Z64).toArray).there; clear hb9; dsimp only)
    | (with_reducible refine wpList_store_mid rfl 24 (.tmp 3) (.tmp 6) rfl w9.heap.size 0 (vbs J).toArray rfl rfl (there_arr HTh9.out HJl.out) (info_arr HI24.out) (all_oneCell_toArray (vbs_one _)) ?_))
  have hb19 : Below W0.heap.size W0 w9 := Hb8.out.trans (Hb9.out.mono Hb8.out.size)
  have hDF : Blk ((w9.alloc (.cells (vbs Z64).toArray 24)).setCells w9.heap.size 0 (vbs J)) w9.heap.size 24 (vbs J) := (Blk.new w9 24 (vbs Z64).toArray).setCells (vbs J) (by rw [HJl.out]; rfl)
  have hlt9 : w.heap.size < w9.heap.size := Nat.lt_of_lt_of_le HB.out.lt hb19.size
  have hXF : Blk ((w9.alloc (.cells (vbs Z64).toArray 24)).setCells w9.heap.size 0 (vbs J)) w.heap.size 29 (vbs Z32) := Blk.other_setCells (by omega) _ 0 _ ((HB.out.below hb19 HB.out.lt).alloc _)
  have hBF : Below w.heap.size w ((w9.alloc (.cells (vbs Z64).toArray 24)).setCells w9.heap.size 0 (vbs J)) := below_setCells (by omega) _ 0 _ ((Hb.out.trans (hb19.mono Hb.out.size)).alloc (by omega) _)
  generalize (w9.alloc (.cells (vbs Z64).toArray 24)).setCells w9.heap.size 0 (vbs J) = WF at hDF hXF hBF ⊢
  generalize w9.heap.size = G at hlt9 hDF ⊢
  have HRg : Hid (WF.rangeAt G 0 (vbs (J.take 32))) := fun j v hv => by
    have hj := (List.getElem?_eq_some_iff.1 hv).1
    have h1 := HKl.out
    refine hDF.range j v ?_
    rw [← hv]; unfold vbs; rw [List.map_take]; exact (List.getElem?_take_of_lt (by omega)).symm
  have HTh : Hid (WF.there w.heap.size 0 32) := hXF.there
  have HX := Lib.hid hXF
  have HBF := Lib.hid hBF
  have hap := arr_at29 (some ⟨G, 0, none⟩) 64 64 (by decide)
  clear hb19 hDF hXF hBF hz
  go_wp2_with (first
    | (with_reducible refine wpList_load_mid rfl 29 (.tmp 8) rfl G 0 rfl (vbs (J.take 32)) _ HRg.out Tryd.underlying29 rfl HI29.out ?_)
    | (with_reducible refine wpList_store_mid rfl 29 (.tmp 2) (.tmp 9) rfl w.heap.size 0 (vbs (J.take 32)).toArray rfl rfl (there_arr HTh.out HKl.out) (info_arr HI29.out) (all_oneCell_toArray (vbs_one _)) ?_))
  have hS2 := HX.out.setCells (vbs (J.take 32)) (by rw [HKl.out]; rfl)
  have hSb := below_setCells (Nat.le_refl w.heap.size) (vbs (J.take 32)) 0 WF HBF.out
  have hlv := run_loadVar_mid (P := Tryd.prog) (WF.setCells w.heap.size 0 (vbs (J.take 32))) w.heap.size 0 29 _ _ hS2.range Tryd.underlying29 rfl HI29.out
  exact bodyPost_ret (v := .agg (vbs (J.take 32)).toArray) (by simp [results, Tryd.results10, asAddr, Act.put, hlv]) rfl ⟨rfl, hSb⟩
end Go.Proofs.YtffngfjbaimbhaaDoor
