/- The law BytesPuts returns true for every input that can be read. -/
import Derived.Test.YtnnceicjooahmaaUa
import Derived.Outline
namespace Go.Proofs.Ytnnceicjooahmaa
open Go.RowKit
set_option linter.unusedVariables false
set_option linter.unusedSimpArgs false
theorem xor255 (x : BitVec 8) : bits .xor .u8 (Bt x) 255 = Bt (x ^^^ 255) := by
  unfold Bt
  rw [show (255 : Int) = ((255 : Nat) : Int) from rfl, u8_xor_nat _ _ x.isLt (by omega), BitVec.toNat_xor]
  rfl
theorem OB.set {w : World} {B g n cap k : Nat} {X : List (BitVec 8)} (h : OB w B (.slice (some ⟨g, 0, none⟩) n cap) X) (hk : k < X.length) (z : BitVec 8) : OB (w.setCell ⟨g, k, none⟩ (.int .u8 (Bt z))) B (.slice (some ⟨g, 0, none⟩) n cap) (X.set k z) := by
  refine ⟨by rw [vbs_len]; simp, ?_⟩
  rcases h.2 with ⟨hn, _⟩ | ⟨g', cap', cur, hv, hbb, hgg, h1, h2, h3, h4⟩
  · cases hn
  · cases hv
    refine .inr ⟨g, cap, cur.setIfInBounds k (.int .u8 (Bt z)), by rw [List.length_set], hbb, ?_, by rw [List.length_set]; exact h1, h2, by simpa using h3, ?_⟩
    · simp only [World.setCell, Array.getElem?_modify, hgg]
      simp
    · rw [← vbs_set, ← h4, Array.toList_setIfInBounds, List.length_set, List.take_set]
theorem OB.cells {w : World} {B g n cap k : Nat} {X : List (BitVec 8)} (h : OB w B (.slice (some ⟨g, 0, none⟩) n cap) X) (hk : k < X.length) : w.cell? ⟨g, k, none⟩ = some (.int .u8 (Bt (X.getD k 0))) ∧ w.frozen? ⟨g, k, none⟩ = false ∧ B ≤ g ∧ n = X.length := by
  have h' : w.ownsRow B 5 1 (.slice (some ⟨g, 0, none⟩) n cap) X.length (vbs X) := h
  rcases h'.2 with ⟨hn, _⟩ | ⟨g', cap', cur, hv, hbb, hgg, h1, h2, h3, h4⟩
  · cases hn
  · cases hv
    have hc := h'.cells (g := g) rfl k _ (vbs_at hk)
    rw [Addr.add_mid, Nat.zero_add] at hc
    exact ⟨hc, by simp [World.frozen?, hgg], hbb, rfl⟩
theorem OB.form {w : World} {B n cap : Nat} {A : Option Addr} {X : List (BitVec 8)} (h : OB w B (.slice A n cap) X) (hp : 0 < X.length) : ∃ g, A = some ⟨g, 0, none⟩ := by
  rcases h.2 with ⟨_, h0⟩ | ⟨g, cap', cur, hv, _⟩
  · omega
  · cases hv; exact ⟨g, rfl⟩
theorem puts_big (A : Option Addr) (n cap : Nat) (k z : Int) (w : World) (h : 5000 < n) :
    Calls Try.prog 3 #[.slice A n cap, .int .i64 k, .int .u64 z] w fun e w' => e = .returned (.bool true) ∧ Below w.heap.size w w' := by
  have KA := Lib.hid (awake_any w)
  have h1' : (5000 : Int) < (n : Int) := by omega
  go_enter Try.func3, Try.ntmps3
  go_wp2_with (go_at_call 8; (with_reducible refine KA.out.mono ?_); rintro e w1 ⟨rfl, hb⟩; dsimp only)
  go_ret
  exact ⟨rfl, hb⟩
theorem put_n (A : Option Addr) (L : List (BitVec 8)) (l cap B : Nat) (k : Int) (n : Nat) (w : World) (hL : L.length = l) (hR : Rd w B A L) (hB : B ≤ w.heap.size) (hn : n < 18446744073709551616) (hl : L.length ≤ 100000000) :
    Calls Try.prog 9 #[.slice A l cap, .int .i64 k, .int .u64 n] w (PutPost L k n w) := by subst hL; exact put_any A L cap B k n w hR hB hn hl
theorem rput_n (A : Option Addr) (L : List (BitVec 8)) (l cap B : Nat) (k : Int) (n : Nat) (w : World) (hL : L.length = l) (hR : Rd w B A L) (hB : B ≤ w.heap.size) (hc : A = none → cap = 0) (hn : n < 18446744073709551616) (hl : L.length ≤ 100000000) :
    Calls Try.prog 10 #[.slice A l cap, .int .i64 k, .int .u64 n] w (PutPost L k n w) := by subst hL; exact rput_any A L cap B k n w hR hB hc hn hl
theorem conv_n {w : World} {A : Option Addr} {L : List (BitVec 8)} {n c B : Nat} (h : Rd w B A L) (hn : n = L.length) : (convert 22 9 (.slice A n c)).run Try.prog w = .ok (.string (strB L)) w :=
  run_conv_slice w Try.underlying22 Try.underlying5 Try.underlying9 A L n c hn B h
theorem up_to {w w' : World} {B B' : Nat} {A : Option Addr} {R : List (BitVec 8)} (h : Rd w B A R) (hb : Below B' w w') (hB : B ≤ B') : Rd w' B A R := h.keep (hb.mono hB)
set_option maxHeartbeats 1000000 in
theorem puts_walk (A : Option Addr) (cap : Nat) (L : List (BitVec 8)) (k : Int) (z : Nat) (w : World) (hR : Rd w w.heap.size A L) (hc : A = none → cap = 0) (hz : z < 18446744073709551616) :
    Calls Try.prog 3 #[.slice A L.length cap, .int .i64 k, .int .u64 z] w fun e w' => e = .returned (.bool true) ∧ Below w.heap.size w w' := by
  by_cases hbig : 5000 < L.length
  · exact puts_big A L.length cap k z w hbig
  · obtain ⟨n, hn⟩ : ∃ n, n = L.length := ⟨_, rfl⟩
    have h1 : n ≤ 5000 := by omega
    have HN := Lib.hid hn
    have HR := Lib.hid hR
    have Hc := Lib.hid hc
    have Hz := Lib.hid hz
    have HO := Lib.hid (show OB (w.alloc (Obj.cells #[] 5)) w.heap.size (.slice (some ⟨w.heap.size, 0, none⟩) 0 0) [] from owns_empty w w.heap.size (Nat.le_refl _))
    have hb0 : Below w.heap.size w (w.alloc (Obj.cells #[] 5)) := (Below.refl _ _).alloc (Nat.le_refl _) _
    have HS := Lib.hid (src_of_rd (hR.keep hb0))
    have HL : Hid (([] : List (BitVec 8)).length + L.length ≤ 140737488355328) := by show ([] : List (BitVec 8)).length + L.length ≤ _; simp; omega
    have HB := Lib.hid (show w.heap.size ≤ (w.alloc (Obj.cells #[] 5)).heap.size by simp)
    have HB0 := Lib.hid hb0
    rw [← hn]
    clear hbig hn hR hc hz hb0
    go_enter Try.func3, Try.ntmps3
    go_upto_region 4 with (refine wpList_push (o := ⟨some 19, _, _, _, _, _⟩) rfl (.tmp 17) (.tmp 18) rfl rfl w.heap.size _ [] L rfl HO.out A n cap rfl HN.out HS.out Hc.out HL.out HB0.out HB.out (Nat.le_refl _) ?_; intro v1 w1 ho1 hb1 hb1')
    rw [List.nil_append] at ho1
    obtain ⟨A1, c1, rfl, hr1, _, _, hz1⟩ := ho1.rd
    have K9 := Lib.hid (put_n A1 L L.length c1 _ k z w1 rfl hr1 (Nat.le_refl _) Hz.out (by have := HN.out; omega))
    have K10 : Hid (∀ w', Below w1.heap.size w1 w' → Calls Try.prog 10 #[.slice A n cap, .int .i64 k, .int .u64 z] w' (PutPost L k z w')) := fun w' hb =>
      rput_n A L n cap _ k z w' HN.out.symm (up_to (HR.out.keep hb1) hb hb1.size) (Nat.le_trans hb1.size hb.size) Hc.out Hz.out (by have := HN.out; omega)
    have HB1 := Lib.hid hb1
    have HR1 := Lib.hid hr1
    clear ho1 hb1 hb1' hr1 hz1 HO HS HB HB0 HL
    by_cases hv : isW k = true ∧ z < 2 ^ (8 * k.toNat)
    · obtain ⟨X, hX⟩ : ∃ X, X = L ++ les z k.toNat := ⟨_, rfl⟩
      have HX := Lib.hid hX
      have HV := Lib.hid hv
      have HXl : Hid (X.length ≤ 10000) := show X.length ≤ 10000 by rw [hX, List.length_append, les_len]; have := isW_pos hv.1; have := HN.out; omega
      clear hX hv
      go_upto_region 5 with (go_at_call 9; (with_reducible refine K9.out.mono ?_); rintro e w2 ⟨hb2, hy, hx⟩; obtain ⟨vx, rfl, hox⟩ := hy HV.out; clear hy hx; dsimp only)
      rw [← HX.out] at hox
      have HX2 := Lib.hid hox
      have HB2 := Lib.hid hb2
      have K10' := Lib.hid (K10.out w2 hb2)
      obtain ⟨AX, cX, rfl, hrX, _, hcX, hzX⟩ := hox.rd
      have HrX := Lib.hid hrX
      clear hb2 hox hrX hzX K9 K10
      go_upto_region 6 with (go_at_call 10; (with_reducible refine K10'.out.mono ?_); rintro e w3 ⟨hb3, hy, hx⟩; obtain ⟨vy, rfl, hoy⟩ := hy HV.out; clear hy hx; dsimp only)
      rw [← HX.out] at hoy
      obtain ⟨AY, cY, rfl, hrY, _, _, _⟩ := hoy.rd
      have e1 := conv_n (c := cX) (HrX.out.keep hb3) rfl
      have e2 := conv_n (c := cY) hrY rfl
      obtain ⟨s, hs⟩ : ∃ s, s = strB X := ⟨_, rfl⟩
      obtain ⟨m, hm⟩ : ∃ m, m = X.length := ⟨_, rfl⟩
      rw [← hs, ← hm] at e1 e2
      have es : (s.toList == s.toList) = true := beq_self_eq_true _
      have Hm := Lib.hid hm
      have HB3 := Lib.hid hb3
      rw [← hm]
      clear hs hoy hrY hb3 hm K10'
      go_upto_region 9 with fail
      have HO3 := Lib.hid (HX2.out.below (B' := 0) HB3.out)
      have HB13 : Hid (Below w1.heap.size w1 w3) := HB2.out.trans (HB3.out.mono HB2.out.size)
      have hmm : m ≤ 10000 := by have := HXl.out; have := Hm.out; omega
      clear HX2 HB3 HB2 e1 e2 es HrX
      go_loopw [12] (fun i wr => ∃ j : Nat, j ≤ m ∧ i = .int .i64 j ∧ (∃ Y, Y.length = m ∧ OB wr w1.heap.size (.slice AX m cX) Y) ∧ Below w1.heap.size w1 wr) (fun i _ => m - (intOf i).toNat)
      case atStart => exact ⟨0, Nat.zero_le _, rfl, ⟨X, Hm.out.symm, by rw [Hm.out]; exact HO3.out⟩, HB13.out⟩
      case round =>
        obtain ⟨j, hj, rfl, ⟨Y, hY, hO⟩, hB⟩ := hrel
        have HOr := Lib.hid hO
        have HBr := Lib.hid hB
        have HYl := Lib.hid hY
        clear HO3 HB13
        by_cases hlt : j < m
        · obtain ⟨g, rfl⟩ := hO.form (by omega)
          obtain ⟨c0, f0, hBg, _⟩ := hO.cells (k := j) (by omega)
          have hx := xor255 (Y.getD j 0)
          obtain ⟨y, hy⟩ : ∃ y, y = Y.getD j 0 := ⟨_, rfl⟩
          rw [← hy] at c0 hx
          have j0 : (0 : Int) ≤ (j : Int) := by omega
          have HBg := Lib.hid hBg
          clear hO hB hY hy hBg
          go_wp2
          go_roundw
          case rel => exact ⟨j + 1, by omega, by go_num, ⟨Y.set j (y ^^^ 255), by rw [List.length_set]; exact HYl.out, HOr.out.set (by have := HYl.out; omega) _⟩, HBr.out.setCell HBg.out _⟩
          case measure => simp [intOf]; omega
        · obtain rfl : j = m := by omega
          have KA := Lib.hid (awake_any wr)
          have e1 := conv_n (c := c1) (HR1.out.keep HBr.out) rfl
          have e2 := conv_n (c := cap) (up_to (HR.out.keep HB1.out) HBr.out HB1.out.size) HN.out
          obtain ⟨s2, hs2⟩ : ∃ s2, s2 = strB L := ⟨_, rfl⟩
          rw [← hs2] at e1 e2
          have es : (s2.toList == s2.toList) = true := beq_self_eq_true _
          clear hO hB hY hs2
          go_wp2_with (go_at_call 8; (with_reducible refine KA.out.mono ?_); rintro e w5 ⟨rfl, hb5⟩; dsimp only)
          go_ret
          exact ⟨rfl, HB1.out.trans ((HBr.out.trans (hb5.mono HBr.out.size)).mono HB1.out.size)⟩
    · have HV := Lib.hid hv
      clear hv
      go_upto_region 5 with (go_at_call 9; (with_reducible refine K9.out.mono ?_); rintro e w2 ⟨hb2, hy, hx⟩; obtain rfl := hx HV.out; clear hy hx; dsimp only)
      have HB2 := Lib.hid hb2
      have K10' := Lib.hid (K10.out w2 hb2)
      clear hb2 K9 K10
      go_upto_region 6 with (go_at_call 10; (with_reducible refine K10'.out.mono ?_); rintro e w3 ⟨hb3, hy, hx⟩; obtain rfl := hx HV.out; clear hy hx; dsimp only)
      have HB3 : Hid (Below w1.heap.size w1 w3) := HB2.out.trans (hb3.mono HB2.out.size)
      have e1 := conv_n (c := c1) (HR1.out.keep HB3.out) rfl
      have e2 := conv_n (c := cap) (up_to (HR.out.keep HB1.out) HB3.out HB1.out.size) HN.out
      have e3 : (convert 22 9 (.slice none 0 0)).run Try.prog w3 = .ok (.string { data := #[] }) w3 := conv_lit (B := 0) (L := []) (fun h => by simp at h) rfl _ (by decide +kernel)
      obtain ⟨s2, hs2⟩ : ∃ s2, s2 = strB L := ⟨_, rfl⟩
      rw [← hs2] at e1 e2
      have es : (s2.toList == s2.toList) = true := beq_self_eq_true _
      have KA := Lib.hid (awake_any w3)
      clear hb3 hs2 K10' HB2
      go_upto_region 9 with fail
      go_loop [12] (fun i => i = .int .i64 0) (fun i => 0)
      case atStart => rfl
      case round =>
        subst hrel
        go_wp2_with (go_at_call 8; (with_reducible refine KA.out.mono ?_); rintro e w5 ⟨rfl, hb5⟩; dsimp only)
        go_ret
        exact ⟨rfl, HB1.out.trans ((HB3.out.trans (hb5.mono HB3.out.size)).mono HB1.out.size)⟩
end Go.Proofs.Ytnnceicjooahmaa
