/- What sha512.Sum returns; the beginning of SHA-512/256 that made makes. -/
import Derived.Test.YtffngfjbaimbhaaDoorSg
import Derived.Outline
namespace Go.Proofs.YtffngfjbaimbhaaDoor
open Go.RowKit
set_option linter.unusedVariables false
set_option linter.unusedSimpArgs false
/-- SHA-512 of the bytes. -/
def sumB (R : List (BitVec 8)) : List (BitVec 8) := digB ini R
theorem digB_len (s : St) (R : List (BitVec 8)) : (digB s R).length = 64 := jk_len _ 8
set_option maxRecDepth 100000 in
set_option maxHeartbeats 1000000 in
theorem sum_any (A : Option Addr) (cap : Nat) (R : List (BitVec 8)) (w : World) (hG : Glob w) (hR : Rd w w.heap.size A R) (hcap : R.length ≤ cap) (hc : cap ≤ 9223372036854775807) (hl : R.length < 1152921504606846976) :
    Calls Tryd.prog 7 #[.slice A R.length cap] w fun e w' => e = .returned (.agg (vbs (sumB R)).toArray) ∧ Below w.heap.size w w' := by
  have hz := zero24
  have hb : Below w.heap.size w (w.alloc (.cells (vbs Z64).toArray 24)) := (Below.refl _ _).alloc (Nat.le_refl _) _
  have hG1 := hG.below hb
  have hB := Blk.new w 24 (vbs Z64).toArray
  have K16 := Lib.hid (digest_any ini A cap R _ hG1 (fun hp => by obtain ⟨b, o, e, h1, h2⟩ := (hR.keep hb) hp; exact ⟨b, o, e, Nat.lt_of_lt_of_le h1 hb.size, h2⟩) hcap hc hl)
  have HRg := Lib.hid hG1.i
  have HI38 := Lib.hid (info38 ini)
  obtain ⟨J, hJ⟩ : ∃ J, J = sumB R := ⟨_, rfl⟩
  have hJl : (vbs J).length = 64 := by rw [hJ, vbs_len]; exact digB_len _ _
  rw [show digB ini R = J from hJ.symm] at K16
  rw [← hJ]
  obtain ⟨sv, hsv⟩ : ∃ sv, sv = stv ini := ⟨_, rfl⟩
  rw [← hsv] at K16 HRg HI38
  have HJl := Lib.hid hJl
  have HI24 := Lib.hid (i24 hJl)
  have HB := Lib.hid hB
  have Hb := Lib.hid hb
  obtain ⟨n, hn⟩ : ∃ n, n = R.length := ⟨_, rfl⟩
  rw [← hn] at K16 ⊢
  clear hG hR hcap hc hl hb hG1 hB hJ hJl hsv hn
  go_enter Tryd.func7, Tryd.ntmps7
  go_upto_region 1 with fail
  generalize w.alloc (.cells (vbs Z64).toArray 24) = W0 at K16 HRg HB Hb ⊢
  clear hz
  go_wp2_with (first
    | (with_reducible refine wpList_load_mid rfl 38 (.global 0) rfl 0 0 rfl sv.toList _ HRg.out Tryd.underlying38 rfl HI38.out ?_)
    | (go_at_call 16; (with_reducible refine K16.out.mono ?_); rintro e w9 ⟨rfl, hb9⟩; have Hb9 := Lib.hid hb9; have HTh9 : Hid (w9.there w.heap.size 0 64) := (HB.out.below hb9 HB.out.lt).there; clear hb9; dsimp only)
    | (with_reducible refine wpList_store_mid rfl 24 (.tmp 2) (.tmp 5) rfl w.heap.size 0 (vbs J).toArray rfl rfl (there_arr HTh9.out HJl.out) (info_arr HI24.out) (all_oneCell_toArray (vbs_one _)) ?_))
  have hS2 := (HB.out.below Hb9.out HB.out.lt).setCells (vbs J) (by rw [HJl.out]; rfl)
  have hSb := below_setCells (Nat.le_refl w.heap.size) (vbs J) 0 w9 (Hb.out.trans (Hb9.out.mono Hb.out.size))
  have hlv := run_loadVar_mid (P := Tryd.prog) (w9.setCells w.heap.size 0 (vbs J)) w.heap.size 0 24 _ _ hS2.range Tryd.underlying24 rfl HI24.out
  exact bodyPost_ret (v := .agg (vbs J).toArray) (by simp [results, Tryd.results7, asAddr, Act.put, hlv]) rfl ⟨rfl, hSb⟩
end Go.Proofs.YtffngfjbaimbhaaDoor
