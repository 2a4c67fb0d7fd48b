/- What the document's own Digest and Sum return: the program's bytes. -/
import Derived.Test.YtffngfjbaimbhaaDoorTg
import Derived.Outline
namespace Go.Proofs.YtffngfjbaimbhaaDoor
open Go.RowKit
set_option linter.unusedVariables false
set_option linter.unusedSimpArgs false
set_option maxRecDepth 100000
theorem take_w (s : St) (Ah Ak : Option Addr) (ch ck g o cb : Nat) (C : List (BitVec 8)) (w : World) (hC : C.length = 128) (hh : RdV w w.heap.size Ah (stl s)) (hk : RdV w w.heap.size Ak KK) (hb : Rd w w.heap.size (some ⟨g, o, none⟩) C) (hch : 8 ≤ ch) (hck : 80 ≤ ck) (hcb : 128 ≤ cb) :
    Calls Tryd.prog 26 #[.slice Ah 8 ch, .slice Ak 80 ck, .slice (some ⟨g, o, none⟩) 128 cb] w fun e w' => ∃ A c, e = .returned (.slice A 8 c) ∧ RdV w' w'.heap.size A (stl (proc s C)) ∧ 8 ≤ c ∧ Below w.heap.size w w' :=
  (take_any s Ah Ak ch ck g o cb C w hC hh hk hb hch hck hcb).mono fun e w' ⟨v, he, ho, hb⟩ => by
    obtain ⟨A, c, rfl, hr, h1, _, _⟩ := ho.rd
    exact ⟨A, c, he, hr, h1, hb⟩
theorem Rd.part {w : World} {B b o : Nat} {L : List (BitVec 8)} (h : Rd w B (some ⟨b, o, none⟩) L) (i n : Nat) (hi : i + n ≤ L.length) : Rd w B (some ⟨b, o + i, none⟩) ((L.drop i).take n) := fun hp => by
  rw [List.length_take, List.length_drop] at hp
  obtain ⟨b', o', e, hb, hc⟩ := h (by omega)
  cases e
  refine ⟨b, o + i, rfl, hb, fun j hj => ?_⟩
  rw [List.length_take, List.length_drop] at hj
  rw [Nat.add_assoc, hc (i + j) (by omega)]
  simp [List.getD, List.getElem?_take, show j < n by omega]
theorem stK_succ (s : St) (R : List (BitVec 8)) (k : Nat) : stK s R (k + 1) = proc (stK s R k) ((R.drop (128 * k)).take 128) := rfl
set_option maxHeartbeats 4000000 in
theorem rdigest_any (s : St) (Ah A : Option Addr) (ch cap : Nat) (R : List (BitVec 8)) (w : World) (hh : RdV w w.heap.size Ah (stl s)) (hch : 8 ≤ ch) (hR : Rd w w.heap.size A R) (hcap : R.length ≤ cap) (hA : A = none → cap = 0) (hl : R.length ≤ 4096) :
    Calls Tryd.prog 18 #[.slice Ah 8 ch, .slice A R.length cap] w fun e w' => ∃ A' c, e = .returned (.slice A' 8 c) ∧ RdV w' w'.heap.size A' (stl (stK s (filled R) ((filled R).length / 128))) ∧ 8 ≤ c ∧ Below w.heap.size w w' := by
  have KK1 := Lib.hid (K_any w)
  have Hh := Lib.hid hh
  have HF : Hid (∀ w1, Below w.heap.size w w1 → Calls Tryd.prog 25 #[.slice A R.length cap] w1 fun e w' => (∃ v, e = .returned v ∧ OB w' w1.heap.size v (filled R)) ∧ Below w1.heap.size w1 w') := fun w1 hb => filled_any A cap R w1 ((hR.keep hb).up hb.size) hcap hA hl
  have hfl := filled_len R
  obtain ⟨F, hF⟩ : ∃ F, F = filled R := ⟨_, rfl⟩
  obtain ⟨m, hm⟩ : ∃ m, m = R.length / 128 + manyB (R.length % 128) := ⟨_, rfl⟩
  have hm1 : 1 ≤ m := by have := many_le (R.length % 128) (by omega); omega
  have hm40 : m ≤ 40 := by have := many_le (R.length % 128) (by omega); omega
  rw [← hF] at HF hfl
  rw [← hm] at hfl
  have HFl := Lib.hid hfl
  have hq : (filled R).length / 128 = m := by rw [← hF, hfl, Nat.mul_div_cancel_left _ (by omega : 0 < 128)]
  rw [hq, ← hF]
  obtain ⟨n, hn⟩ : ∃ n, n = R.length := ⟨_, rfl⟩
  rw [← hn] at HF ⊢
  clear hh hR hcap hA hl hF hm hfl hq hn
  go_enter Tryd.func18, Tryd.ntmps18
  go_upto_region 2 with (go_at_call 14; (with_reducible refine KK1.out.mono ?_); rintro e w1 ⟨gk, ck, rfl, hrk, hck, hb1⟩; have HRK := Lib.hid hrk; have HCK : Hid (80 ≤ ck) := hck; have HB1 := Lib.hid hb1; have KF := Lib.hid (HF.out w1 hb1); clear hrk hck hb1 KK1 HF; dsimp only)
  rw [show KK.length = 80 from rfl]
  go_upto_region 3 with (go_at_call 25; (with_reducible refine KF.out.mono ?_); rintro e w2 ⟨⟨v, rfl, hv⟩, hb2⟩; obtain ⟨Af, cf, rfl, hrf, hcf, hcf2, _⟩ := hv.rd; have HRF := Lib.hid hrf; have HCF := Lib.hid hcf; have HB2 := Lib.hid hb2; clear hrf hb2 hv KF; dsimp only)
  obtain ⟨b, o, rfl, hbl, _⟩ := HRF.out (by rw [HFl.out]; omega)
  have HBw2 : Hid (Below w.heap.size w w2) := HB1.out.trans (HB2.out.mono HB1.out.size)
  rw [HFl.out]
  have hcf3 : 128 * m ≤ cf := by have := HCF.out; rw [HFl.out] at this; exact this
  clear hcf hbl
  go_wp2_with fail
  go_loopw [0, 7] (fun h i wr => ∃ k : Nat, k ≤ m ∧ i = .int .i64 ((128 * k : Nat) : Int) ∧ (∃ A' c, h = .slice A' 8 c ∧ RdV wr wr.heap.size A' (stl (stK s F k)) ∧ 8 ≤ c) ∧ Below w2.heap.size w2 wr) (fun _ i _ => 128 * m - (intOf i).toNat)
  case atStart => exact ⟨0, Nat.zero_le _, rfl, ⟨Ah, ch, rfl, (Hh.out.keep HBw2.out (Nat.le_refl _)).up HBw2.out.size, hch⟩, Below.refl _ _⟩
  case round =>
    obtain ⟨k, hk, rfl, ⟨A', c, rfl, hr, hc8⟩, hb⟩ := hrel
    have HR := Lib.hid hr
    have HB := Lib.hid hb
    by_cases hlt : k < m
    · have KT := Lib.hid (take_w (s := stK s F k) (Ah := A') (Ak := some ⟨gk, 0, none⟩) (ch := c) (ck := ck) (g := b) (o := o + 128 * k) (cb := cf - 128 * k) (C := (F.drop (128 * k)).take 128) (w := wr) (by rw [List.length_take, List.length_drop, HFl.out]; omega) hr ((HRK.out.keep (HB2.out.trans (hb.mono HB2.out.size)) (Nat.le_refl _)).up (Nat.le_trans HB2.out.size hb.size)) (((HRF.out.keep hb).part (128 * k) 128 (by rw [HFl.out]; omega)).up hb.size) hc8 HCK.out (by omega))
      rw [← stK_succ] at KT
      obtain ⟨S1, hS1⟩ : ∃ S, S = stK s F (k + 1) := ⟨_, rfl⟩
      rw [← hS1] at KT
      have HS1 := Lib.hid hS1
      clear hS1
      have i1 : ((128 * k : Nat) : Int) < ((128 * m : Nat) : Int) := by omega
      obtain ⟨t, ht⟩ : ∃ t, t = 128 * k := ⟨_, rfl⟩
      rw [← ht] at KT i1 ⊢
      have Ht := Lib.hid ht
      have i2 : ¬ cf = t := by omega
      have i3 : (t : Int) + 128 ≤ (cf : Int) := by omega
      have i4 : ((t : Int) + 128).toNat - t = 128 := by omega
      have i5 : ((t : Int) + 128).toNat ≤ cf := by omega
      have i6 : (t : Int) ≤ 5120 := by omega
      clear hr hb ht
      go_wp2_with (go_at_call 26; (with_reducible refine KT.out.mono ?_); rintro e w4 ⟨A4, c4, rfl, hr4, hc4, hb4⟩; have HR4 := Lib.hid hr4; have HC4 := Lib.hid hc4; have HB4 := Lib.hid hb4; clear hr4 hc4 hb4; dsimp only)
      go_roundw
      case rel => exact ⟨k + 1, by omega, by rw [show 128 * (k + 1) = 128 * k + 128 by omega, ← Ht.out]; go_num, ⟨A4, c4, rfl, by rw [← HS1.out]; exact HR4.out, HC4.out⟩, HB.out.trans (HB4.out.mono HB.out.size)⟩
      case measure => simp [intOf]; have := Ht.out; omega
    · obtain rfl : k = m := by omega
      clear hr hb
      go_wp2_with fail
      go_ret
      exact ⟨A', c, rfl, HR.out, hc8, HBw2.out.trans (HB.out.mono HBw2.out.size)⟩
end Go.Proofs.YtffngfjbaimbhaaDoor
