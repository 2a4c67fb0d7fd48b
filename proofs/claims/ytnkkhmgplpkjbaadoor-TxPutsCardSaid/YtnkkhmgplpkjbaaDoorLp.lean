/- The law package's awake returns true. -/
import Derived.Test.YtnkkhmgplpkjbaaDoorLo
import Derived.Outline
namespace Go.Proofs.YtnkkhmgplpkjbaaDoor
open Go.RowKit
set_option linter.unusedVariables false
set_option linter.unusedSimpArgs false
set_option maxRecDepth 100000
def XA : List (BitVec 8) := layB (TG []) false
def XB : List (BitVec 8) := layB (TG [[170]]) true
theorem XA_len : XA.length = 61 := by decide +kernel
theorem XB_len : XB.length = 66 := by decide +kernel
theorem ob_shape {w : World} {B n : Nat} {A : Option Addr} {c : Nat} {X : List (BitVec 8)} (h : OB w B (.slice A n c) X) (hp : 0 < X.length) : ∃ g, A = some ⟨g, 0, none⟩ ∧ g < w.heap.size ∧ X.length ≤ c ∧ c ≤ 9223372036854775807 ∧ Rd w w.heap.size (some ⟨g, 0, none⟩) X := by
  obtain ⟨A', cap, e, hr, h1, h2, _⟩ := h.rd
  cases e
  obtain ⟨g, rfl⟩ := h.form hp
  obtain ⟨b, o, e2, hlt, _⟩ := hr hp
  cases e2
  exact ⟨g, rfl, hlt, h1, h2, hr⟩
theorem Rd.part {w : World} {B g : Nat} {X : List (BitVec 8)} (h : Rd w B (some ⟨g, 0, none⟩) X) (a n : Nat) (hn : a + n ≤ X.length) : Rd w B (some ⟨g, a, none⟩) ((X.drop a).take n) := fun hp => by
  rw [List.length_take, List.length_drop] at hp
  obtain ⟨b, o, e, hlt, hc⟩ := h (by omega)
  cases e
  refine ⟨g, a, rfl, hlt, fun j hj => ?_⟩
  rw [List.length_take, List.length_drop] at hj
  have := hc (a + j) (by omega)
  rw [Nat.zero_add] at this
  rw [this]
  simp [List.getD, List.getElem?_take, show j < n by omega, List.getElem?_drop]
theorem ext_part {w : World} {g c : Nat} {X : List (BitVec 8)} (h : Rd w w.heap.size (some ⟨g, 0, none⟩) X) (a n c' : Nat) (hn : a + n ≤ X.length) (s : ByteArray) (hs : strB ((X.drop a).take n) = s) :
    (convert 27 9 (.slice (some ⟨g, a, none⟩) n c')).run Tryd.prog w = .ok (.string s) w :=
  conv_lit (h.part a n hn) (by rw [List.length_take, List.length_drop]; omega) s hs
def AwPost (w : World) (e : Ending) (w' : World) : Prop := e = .returned (.bool true) ∧ Below w.heap.size w w'
theorem gave_w {X : List (BitVec 8)} {n : Nat} (hn : X.length = n) (hp : 0 < n) {w : World} {e : Ending} {w' : World} (h : GavePost X w e w') :
    ∃ g c, e = .returned (.tuple #[.slice (some ⟨g, 0, none⟩) n c, .int .i64 0]) ∧ Rd w' w'.heap.size (some ⟨g, 0, none⟩) X ∧ n ≤ c ∧ c ≤ 9223372036854775807 ∧ Below w.heap.size w w' := by
  subst hn
  obtain ⟨A, c, rfl, ho, hb⟩ := h
  obtain ⟨g, rfl, _, h1, h2, hr⟩ := ob_shape ho hp
  exact ⟨g, c, rfl, hr, h1, h2, hb⟩
theorem putG (wt : List (List (BitVec 8))) (gi go : Nat) (w : World) (h : TxOk w w.heap.size (TG wt) (.slice (some ⟨gi, 0, none⟩) 1 1) (.slice (some ⟨go, 0, none⟩) 1 1)) (hc : chk (TG wt) = 0) (X : List (BitVec 8)) (hX : [] ++ layB (TG wt) (witd (TG wt)) = X) (n : Nat) (hn : X.length = n) (hp : 0 < n) :
    Calls Tryd.prog 8 #[.slice none 0 0, vG gi go] w fun e w' => ∃ g c, e = .returned (.tuple #[.slice (some ⟨g, 0, none⟩) n c, .int .i64 0]) ∧ Rd w' w'.heap.size (some ⟨g, 0, none⟩) X ∧ n ≤ c ∧ c ≤ 9223372036854775807 ∧ Below w.heap.size w w' := by
  have := Put_ok (TG wt) _ _ (.slice none 0 0) [] w h (Sl.nil _ _) (by simp) hc
  rw [hX] at this
  exact this.mono fun e w' hh => gave_w hn hp hh
set_option maxHeartbeats 4000000 in
theorem awake_any (w : World) : Calls Tryd.prog 7 #[] w (AwPost w) := by
  have KG := Lib.hid given_any
  have KW := Lib.hid witness_any
  have h5 : strB ((XA.drop 0).take 5) = { data := #[1, 0, 0, 0, 1] } := by kernel_rfl
  have h12 : strB ((XA.drop 46).take 12) = { data := #[1, 7, 0, 0, 0, 0, 0, 0, 0, 1, 81, 9] } := by kernel_rfl
  have h3 : strB ((XB.drop 4).take 3) = { data := #[0, 1, 1] } := by kernel_rfl
  have HS := Lib.hid (⟨h5, h12, h3⟩ : _ ∧ _ ∧ _)
  clear h5 h12 h3
  go_enter Tryd.func7, Tryd.ntmps7
  go_upto_region 2 with (first
    | (go_at_call 20; (refine (KG.out _).mono ?_); rintro e w1 ⟨gi, gs, go, rfl, hI, hSs, hO, _, hb1⟩; have K15 := Lib.hid (putG [] gi go w1 (tg_ok hI ⟨none, 0, rfl, Nat.le_refl _, by omega, fun h => by simp at h⟩ hO hSs) (by decide +kernel) XA rfl 61 XA_len (by omega)); have HB1 := Lib.hid hb1; clear hI hSs hO hb1; dsimp only)
    | (go_at_call 8; (refine K15.out.mono ?_); rintro e w2 ⟨g, c, rfl, hr, hc1, hc2, hb2⟩; have HR := Lib.hid hr; have HB2 : Hid (Below w.heap.size w w2) := HB1.out.trans (hb2.mono HB1.out.size); clear hr hb2 K15; dsimp only))
  go_upto_region 3 with (first
    | (go_at_call 22; (refine (KW.out _).mono ?_); rintro e w3 ⟨gj, gp, rfl, hok, hb3⟩; have K16 := Lib.hid (putG [[170]] gj gp w3 hok (by decide +kernel) XB rfl 66 XB_len (by omega)); have HB3 := Lib.hid hb3; clear hok hb3; dsimp only)
    | (go_at_call 8; (refine K16.out.mono ?_); rintro e w4 ⟨g2, d, rfl, hr2, hd1, hd2, hb4⟩; have HR2 := Lib.hid hr2; have HB4 := Lib.hid hb4; clear hr2 hb4 K16; dsimp only))
  have hr4 : Rd w4 w4.heap.size (some ⟨g, 0, none⟩) XA := ((HR.out.keep HB3.out).keep' HB4.out HB3.out.size).up (Nat.le_trans HB3.out.size HB4.out.size)
  have x5 := ext_part (c := c) hr4 0 5 c (by rw [XA_len]; omega) _ HS.out.1
  have x12 := ext_part (c := c) hr4 46 12 (c - 46) (by rw [XA_len]; omega) _ HS.out.2.1
  have x3 := ext_part (c := c) HR2.out 4 3 (d - 4) (by rw [XB_len]; omega) _ HS.out.2.2
  have HE := Lib.hid ((HB2.out.trans (HB3.out.mono HB2.out.size)).trans (HB4.out.mono (Nat.le_trans HB2.out.size HB3.out.size)))
  have n46 : ¬ c = 46 := by omega
  have n4 : ¬ d = 4 := by omega
  have i1 : (55 : Int) ≤ (c : Int) := by omega
  have i2 : (7 : Int) ≤ (d : Int) := by omega
  have i3 : (5 : Int) ≤ (c : Int) := by omega
  clear hr4
  go_wp2_with fail
  go_ret
  exact ⟨rfl, HE.out⟩
end Go.Proofs.YtnkkhmgplpkjbaaDoor
