/- Whether unlike texts of two lists have one hash: what the law package's clash returns. -/
import Derived.Test.YtihbmahjdmfjpaaDoorFs
import Derived.Outline
import Derived.StillTailTactics
namespace Go.Proofs.YtihbmahjdmfjpaaDoor
open Go.RowKit
set_option linter.unusedVariables false
set_option linter.unusedSimpArgs false
set_option maxRecDepth 100000
variable {tw : List (BitVec 8) → List (BitVec 8)}
/-- A slice of slices that read as these texts. -/
structure WsR (W : World) (A : Option Addr) (n c : Nat) (Ts : List (List (BitVec 8))) : Prop where
  len : LenN 64 Ts
  num : Ts.length = n
  at_ : 0 < n → ∃ b o, A = some ⟨b, o, none⟩ ∧ b < W.heap.size ∧ ∀ j, j < n → ∃ u cj, W.cell? ⟨b, o + j, none⟩ = some (.slice u 64 cj) ∧ 64 ≤ cj ∧ Rd W W.heap.size u (Ts.getD j [])
theorem WsR.below {W W' : World} {A : Option Addr} {n c : Nat} {Ts : List (List (BitVec 8))} (h : WsR W A n c Ts) (hb : Below W.heap.size W W') : WsR W' A n c Ts :=
  ⟨h.len, h.num, fun hp => by
    obtain ⟨b, o, e, hlt, hj⟩ := h.at_ hp
    refine ⟨b, o, e, Nat.lt_of_lt_of_le hlt hb.size, fun j hjn => ?_⟩
    obtain ⟨u, cj, hc, h64, hr⟩ := hj j hjn
    exact ⟨u, cj, (hb.cell (p := ⟨b, o + j, none⟩) hlt).trans hc, h64, (hr.keep hb).up hb.size⟩⟩
theorem OT.ws {w : World} {B : Nat} {v : Value} {Ts : List (List (BitVec 8))} (h : OT w B v Ts) : ∃ A c, v = .slice A Ts.length c ∧ WsR w A Ts.length c Ts := by
  obtain ⟨h1, gs, hgl, ho, hb⟩ := h
  rcases ho.2 with ⟨rfl, h0⟩ | ⟨g, cap, cur, rfl, hbb, hg, r⟩
  · exact ⟨none, 0, by rw [h0], h1, rfl, fun hp => by omega⟩
  · refine ⟨_, cap, rfl, h1, rfl, fun hp => ⟨g, 0, rfl, (Array.getElem?_eq_some_iff.1 hg).1, fun j hj => ?_⟩⟩
    have hgj : gs[j]? = some (gs.getD j 0) := by simp [List.getD, show j < gs.length by omega]
    have hc := ho.cells (g := g) rfl j (.slice (some ⟨gs.getD j 0, 0, none⟩) 64 64) (by rw [List.getElem?_map, hgj]; rfl)
    rw [Addr.add_mid] at hc
    exact ⟨_, 64, hc, Nat.le_refl _, Rd.of_blk (hb j hj).2⟩
/-- Are these unlike, and have they one hash? -/
def clAt (tw : List (BitVec 8) → List (BitVec 8)) (x y : List (BitVec 8)) : Bool := (!decide (x = y)) && decide (tw x = tw y)
def clashB (tw : List (BitVec 8) → List (BitVec 8)) (A B : List (List (BitVec 8))) : Bool := A.any fun a => B.any fun b => clAt tw a b
theorem clashB_of {A B : List (List (BitVec 8))} {p q : Nat} (hp : p < A.length) (hq : q < B.length) (h : clAt tw (A.getD p []) (B.getD q []) = true) : clashB tw A B = true := by
  unfold clashB
  rw [List.any_eq_true]
  refine ⟨A.getD p [], ?_, ?_⟩
  · have : A.getD p [] = A[p] := by simp [List.getD, hp]
    rw [this]; exact List.getElem_mem hp
  · rw [List.any_eq_true]
    refine ⟨B.getD q [], ?_, h⟩
    have : B.getD q [] = B[q] := by simp [List.getD, hq]
    rw [this]; exact List.getElem_mem hq
theorem clashB_not {A B : List (List (BitVec 8))} (h : ∀ p q, p < A.length → q < B.length → clAt tw (A.getD p []) (B.getD q []) = false) : clashB tw A B = false := by
  unfold clashB
  rw [List.any_eq_false]
  intro a ha
  rw [Bool.not_eq_true, List.any_eq_false]
  intro b hb
  obtain ⟨p, hp, rfl⟩ := List.getElem_of_mem ha
  obtain ⟨q, hq, rfl⟩ := List.getElem_of_mem hb
  have := h p q hp hq
  simp [List.getD, hp, hq] at this
  simpa using this
def ClO (tw : List (BitVec 8) → List (BitVec 8)) (A B : List (List (BitVec 8))) (w : World) (iv : Value) (wr : World) : Prop :=
  ∃ p : Nat, p ≤ A.length ∧ iv = .int .i64 (p : Int) ∧ Below w.heap.size w wr ∧ ∀ a b, a < p → b < B.length → clAt tw (A.getD a []) (B.getD b []) = false
def ClN (tw : List (BitVec 8) → List (BitVec 8)) (A B : List (List (BitVec 8))) (w : World) (p : Nat) (iv : Value) (wr : World) : Prop :=
  ∃ q : Nat, q ≤ B.length ∧ iv = .int .i64 (q : Int) ∧ Below w.heap.size w wr ∧ ∀ b, b < q → clAt tw (A.getD p []) (B.getD b []) = false
set_option maxHeartbeats 4000000 in
theorem clash_any (T : TwC tw) (A A' : Option Addr) (n c n' c' : Nat) (L M : List (List (BitVec 8))) (w : World) (hL : WsR w A n c L) (hM : WsR w A' n' c' M) (hG : Glob w) (hn : n ≤ 1000000) (hn' : n' ≤ 1000000) :
    Calls Tryd.prog 29 #[.slice A n c, .slice A' n' c'] w (VPost (.bool (clashB tw L M)) w) := by
  have HL := Lib.hid hL
  have HM := Lib.hid hM
  have HG := Lib.hid hG
  have HT := Lib.hid T
  have Hn := Lib.hid hL.num
  have Hm := Lib.hid hM.num
  clear hL hM hG T
  obtain ⟨R, hR⟩ : ∃ R, R = clashB tw L M := ⟨_, rfl⟩
  rw [← hR]
  have HR := Lib.hid hR
  clear hR
  go_enter Tryd.func29, Tryd.ntmps29
  go_wp2_with fail
  go_loopw [5] (fun iv wr => ClO tw L M w iv wr) (fun iv _ => (n - intOf iv).toNat)
  case atStart => exact ⟨0, Nat.zero_le _, rfl, Below.refl _ _, fun a b ha => absurd ha (Nat.not_lt_zero a)⟩
  case round =>
    obtain ⟨p, hp, rfl, hb, hpre⟩ := hrel
    rw [Hn.out] at hp
    have HB := Lib.hid hb
    have HP := Lib.hid hpre
    clear hb hpre
    by_cases hlt : p < n
    · have hlt' : (p : Int) < (n : Int) := by omega
      go_wp2_with fail
      go_loopw [6] (fun iv wr => ClN tw L M w p iv wr) (fun iv _ => (n' - intOf iv).toNat)
      case atStart => exact ⟨0, Nat.zero_le _, rfl, HB.out, fun b hb => absurd hb (Nat.not_lt_zero b)⟩
      case round =>
        obtain ⟨q, hq, rfl, hb, hpre⟩ := hrel
        rw [Hm.out] at hq
        have HB2 := Lib.hid hb
        have HP2 := Lib.hid hpre
        clear hb hpre HB
        by_cases hqt : q < n'
        · have hqt' : (q : Int) < (n' : Int) := by omega
          obtain ⟨b, o, rfl, hbl, hj1⟩ := HL.out.at_ (by omega)
          obtain ⟨b', o', rfl, hbl', hj2⟩ := HM.out.at_ (by omega)
          obtain ⟨u1, c1, hc1, h641, hr1⟩ := hj1 p hlt
          obtain ⟨u2, c2, hc2, h642, hr2⟩ := hj2 q hqt
          obtain ⟨X, hX⟩ : ∃ X, X = L.getD p [] := ⟨_, rfl⟩
          obtain ⟨Y, hY⟩ : ∃ Y, Y = M.getD q [] := ⟨_, rfl⟩
          have hX64 : X.length = 64 := by rw [hX]; exact HL.out.len.at (by rw [Hn.out]; exact hlt)
          have hY64 : Y.length = 64 := by rw [hY]; exact HM.out.len.at (by rw [Hm.out]; exact hqt)
          rw [← hX] at hr1
          rw [← hY] at hr2
          have HX := Lib.hid hX
          have HY := Lib.hid hY
          have C1 := Lib.hid hc1
          have C2 := Lib.hid hc2
          have R1 := Lib.hid hr1
          have R2 := Lib.hid hr2
          have X64 := Lib.hid hX64
          have Y64 := Lib.hid hY64
          have hSd := Lib.hid (show SBw w wr.drew from Below.drew HB2.out)
          obtain ⟨sx, hsx⟩ : ∃ sx, sx = strB X := ⟨_, rfl⟩
          obtain ⟨sy, hsy⟩ : ∃ sy, sy = strB Y := ⟨_, rfl⟩
          obtain ⟨t, ht⟩ : ∃ t, t = decide (X = Y) := ⟨_, rfl⟩
          have hbe : (sx.toList == sy.toList) = t := by rw [hsx, hsy, ht]; exact strB_beq X Y
          have K1 : Hid (∀ wq, SBw w wq → (convert 54 9 (.slice u1 64 c1)).run Tryd.prog wq = .ok (.string sx) wq) := fun wq h => by rw [hsx]; exact conv54 (R1.out.keep h) X64.out.symm
          have K2 : Hid (∀ wq, SBw w wq → (convert 54 9 (.slice u2 64 c2)).run Tryd.prog wq = .ok (.string sy) wq) := fun wq h => by rw [hsy]; exact conv54 (R2.out.keep h) Y64.out.symm
          have F1 : Hid (∀ wq, SBw w wq → Calls Tryd.prog 37 #[.slice u1 64 c1] wq (VPost (.agg (vbs (tw X)).toArray) wq)) := fun wq h => HT.out.at X64.out (HG.out.below h) ((R1.out.keep h).up (Below.size h)) h641 (by omega)
          have F2 : Hid (∀ wq, SBw w wq → Calls Tryd.prog 37 #[.slice u2 64 c2] wq (VPost (.agg (vbs (tw Y)).toArray) wq)) := fun wq h => HT.out.at Y64.out (HG.out.below h) ((R2.out.keep h).up (Below.size h)) h642 (by omega)
          have Ht := Lib.hid ht
          clear hX hY hX64 hY64 hc1 hc2 hr1 hr2 hj1 hj2 hsx hsy ht
          go_upto_region 7 with fail
          cases t with
          | true =>
              refine wp_calm ?_
              refine wp_region_but (z := 999) (SBw w) (by kernel_rfl) ?_
              have hS : (SBw w) wr.drew := hSd.out
              refine AnyBut.takeE (i := 0) (v := ?_) rfl (by kernel_rfl) (by kernel_rfl) (by kernel_rfl) (by kernel_rfl) (fun _ _ _ h => h) (Or.inl ⟨by rfl, ?_⟩) hS ?_
              rotate_left
              · (intro wq hq; go_simp; try with_reducible rfl)
              try simp only [Act.put, List.setIfInBounds_toArray, List.set_cons_zero, List.set_cons_succ, List.getElem_toArray, List.getElem_cons_zero, List.getElem_cons_succ]
              refine AnyBut.takeE (i := 1) (v := ?_) rfl (by kernel_rfl) (by kernel_rfl) (by kernel_rfl) (by kernel_rfl) (fun _ _ _ h => h) (Or.inl ⟨by rfl, ?_⟩) hS ?_
              rotate_left
              · (intro wq hq; go_simp; try with_reducible rfl)
              try simp only [Act.put, List.setIfInBounds_toArray, List.set_cons_zero, List.set_cons_succ, List.getElem_toArray, List.getElem_cons_zero, List.getElem_cons_succ]
              refine AnyBut.takeE (i := 2) (v := .pointer (some ⟨b, o + p, none⟩)) rfl (by kernel_rfl) (by kernel_rfl) (by kernel_rfl) (by kernel_rfl) (fun _ _ _ h => h) (Or.inl ⟨by rfl, ?_⟩) hS ?_
              · (intro wq hq; go_simp)
              try simp only [Act.put, List.setIfInBounds_toArray, List.set_cons_zero, List.set_cons_succ, List.getElem_toArray, List.getElem_cons_zero, List.getElem_cons_succ]
              refine AnyBut.takeE (i := 3) (v := .slice u1 64 c1) rfl (by kernel_rfl) (by kernel_rfl) (by kernel_rfl) (by kernel_rfl) (fun _ _ _ h => h) (Or.inl ⟨by rfl, ?_⟩) hS ?_
              · (intro wq hq; have h1 := (Below.cell hq (p := ⟨b, o + p, none⟩) hbl).trans C1.out; go_simp)
              try simp only [Act.put, List.setIfInBounds_toArray, List.set_cons_zero, List.set_cons_succ, List.getElem_toArray, List.getElem_cons_zero, List.getElem_cons_succ]
              refine AnyBut.takeE (i := 4) (v := .string sx) rfl (by kernel_rfl) (by kernel_rfl) (by kernel_rfl) (by kernel_rfl) (fun _ _ _ h => h) (Or.inl ⟨by rfl, ?_⟩) hS ?_
              · (intro wq hq; have h1 := K1.out wq hq; go_simp)
              try simp only [Act.put, List.setIfInBounds_toArray, List.set_cons_zero, List.set_cons_succ, List.getElem_toArray, List.getElem_cons_zero, List.getElem_cons_succ]
              refine AnyBut.takeE (i := 5) (v := ?_) rfl (by kernel_rfl) (by kernel_rfl) (by kernel_rfl) (by kernel_rfl) (fun _ _ _ h => h) (Or.inl ⟨by rfl, ?_⟩) hS ?_
              rotate_left
              · (intro wq hq; go_simp; try with_reducible rfl)
              try simp only [Act.put, List.setIfInBounds_toArray, List.set_cons_zero, List.set_cons_succ, List.getElem_toArray, List.getElem_cons_zero, List.getElem_cons_succ]
              refine AnyBut.takeE (i := 6) (v := ?_) rfl (by kernel_rfl) (by kernel_rfl) (by kernel_rfl) (by kernel_rfl) (fun _ _ _ h => h) (Or.inl ⟨by rfl, ?_⟩) hS ?_
              rotate_left
              · (intro wq hq; go_simp; try with_reducible rfl)
              try simp only [Act.put, List.setIfInBounds_toArray, List.set_cons_zero, List.set_cons_succ, List.getElem_toArray, List.getElem_cons_zero, List.getElem_cons_succ]
              refine AnyBut.takeE (i := 7) (v := .pointer (some ⟨b', o' + q, none⟩)) rfl (by kernel_rfl) (by kernel_rfl) (by kernel_rfl) (by kernel_rfl) (fun _ _ _ h => h) (Or.inl ⟨by rfl, ?_⟩) hS ?_
              · (intro wq hq; go_simp)
              try simp only [Act.put, List.setIfInBounds_toArray, List.set_cons_zero, List.set_cons_succ, List.getElem_toArray, List.getElem_cons_zero, List.getElem_cons_succ]
              refine AnyBut.takeE (i := 8) (v := .slice u2 64 c2) rfl (by kernel_rfl) (by kernel_rfl) (by kernel_rfl) (by kernel_rfl) (fun _ _ _ h => h) (Or.inl ⟨by rfl, ?_⟩) hS ?_
              · (intro wq hq; have h1 := (Below.cell hq (p := ⟨b', o' + q, none⟩) hbl').trans C2.out; go_simp)
              try simp only [Act.put, List.setIfInBounds_toArray, List.set_cons_zero, List.set_cons_succ, List.getElem_toArray, List.getElem_cons_zero, List.getElem_cons_succ]
              refine AnyBut.takeE (i := 9) (v := .string sy) rfl (by kernel_rfl) (by kernel_rfl) (by kernel_rfl) (by kernel_rfl) (fun _ _ _ h => h) (Or.inl ⟨by rfl, ?_⟩) hS ?_
              · (intro wq hq; have h1 := K2.out wq hq; go_simp)
              try simp only [Act.put, List.setIfInBounds_toArray, List.set_cons_zero, List.set_cons_succ, List.getElem_toArray, List.getElem_cons_zero, List.getElem_cons_succ]
              refine AnyBut.takeE (i := 10) (v := .bool false) rfl (by kernel_rfl) (by kernel_rfl) (by kernel_rfl) (by kernel_rfl) (fun _ _ _ h => h) (Or.inl ⟨by rfl, ?_⟩) hS ?_
              · (intro wq hq; go_simp)
              try simp only [Act.put, List.setIfInBounds_toArray, List.set_cons_zero, List.set_cons_succ, List.getElem_toArray, List.getElem_cons_zero, List.getElem_cons_succ]
              refine AnyBut.takeE (i := 11) (v := ?_) rfl (by kernel_rfl) (by kernel_rfl) (by kernel_rfl) (by kernel_rfl) (fun _ _ _ h => h) (Or.inl ⟨by rfl, ?_⟩) hS ?_
              rotate_left
              · (intro wq hq; go_simp; try with_reducible rfl)
              try simp only [Act.put, List.setIfInBounds_toArray, List.set_cons_zero, List.set_cons_succ, List.getElem_toArray, List.getElem_cons_zero, List.getElem_cons_succ]
              refine AnyBut.takeE (i := 12) (v := undef) rfl (by kernel_rfl) (by kernel_rfl) (by kernel_rfl) (by kernel_rfl) (fun _ _ _ h => h) (Or.inr ⟨by rfl, rfl⟩) hS ?_
              try simp only [Act.put, List.setIfInBounds_toArray, List.set_cons_zero, List.set_cons_succ, List.getElem_toArray, List.getElem_cons_zero, List.getElem_cons_succ]
              refine AnyBut.takeE (i := 13) (v := undef) rfl (by kernel_rfl) (by kernel_rfl) (by kernel_rfl) (by kernel_rfl) (fun _ _ _ h => h) (Or.inr ⟨by rfl, rfl⟩) hS ?_
              try simp only [Act.put, List.setIfInBounds_toArray, List.set_cons_zero, List.set_cons_succ, List.getElem_toArray, List.getElem_cons_zero, List.getElem_cons_succ]
              refine AnyBut.takeE (i := 14) (v := undef) rfl (by kernel_rfl) (by kernel_rfl) (by kernel_rfl) (by kernel_rfl) (fun _ _ _ h => h) (Or.inr ⟨by rfl, rfl⟩) hS ?_
              try simp only [Act.put, List.setIfInBounds_toArray, List.set_cons_zero, List.set_cons_succ, List.getElem_toArray, List.getElem_cons_zero, List.getElem_cons_succ]
              refine AnyBut.takeE (i := 15) (v := undef) rfl (by kernel_rfl) (by kernel_rfl) (by kernel_rfl) (by kernel_rfl) (fun _ _ _ h => h) (Or.inr ⟨by rfl, rfl⟩) hS ?_
              try simp only [Act.put, List.setIfInBounds_toArray, List.set_cons_zero, List.set_cons_succ, List.getElem_toArray, List.getElem_cons_zero, List.getElem_cons_succ]
              refine AnyBut.takeE (i := 16) (v := undef) rfl (by kernel_rfl) (by kernel_rfl) (by kernel_rfl) (by kernel_rfl) (fun _ _ _ h => h) (Or.inr ⟨by rfl, rfl⟩) hS ?_
              try simp only [Act.put, List.setIfInBounds_toArray, List.set_cons_zero, List.set_cons_succ, List.getElem_toArray, List.getElem_cons_zero, List.getElem_cons_succ]
              refine AnyBut.takeE (i := 17) (v := undef) rfl (by kernel_rfl) (by kernel_rfl) (by kernel_rfl) (by kernel_rfl) (fun _ _ _ h => h) (Or.inr ⟨by rfl, rfl⟩) hS ?_
              try simp only [Act.put, List.setIfInBounds_toArray, List.set_cons_zero, List.set_cons_succ, List.getElem_toArray, List.getElem_cons_zero, List.getElem_cons_succ]
              refine AnyBut.takeE (i := 18) (v := undef) rfl (by kernel_rfl) (by kernel_rfl) (by kernel_rfl) (by kernel_rfl) (fun _ _ _ h => h) (Or.inr ⟨by rfl, rfl⟩) hS ?_
              try simp only [Act.put, List.setIfInBounds_toArray, List.set_cons_zero, List.set_cons_succ, List.getElem_toArray, List.getElem_cons_zero, List.getElem_cons_succ]
              refine AnyBut.takeE (i := 19) (v := undef) rfl (by kernel_rfl) (by kernel_rfl) (by kernel_rfl) (by kernel_rfl) (fun _ _ _ h => h) (Or.inr ⟨by rfl, rfl⟩) hS ?_
              try simp only [Act.put, List.setIfInBounds_toArray, List.set_cons_zero, List.set_cons_succ, List.getElem_toArray, List.getElem_cons_zero, List.getElem_cons_succ]
              refine AnyBut.takeE (i := 20) (v := undef) rfl (by kernel_rfl) (by kernel_rfl) (by kernel_rfl) (by kernel_rfl) (fun _ _ _ h => h) (Or.inr ⟨by rfl, rfl⟩) hS ?_
              try simp only [Act.put, List.setIfInBounds_toArray, List.set_cons_zero, List.set_cons_succ, List.getElem_toArray, List.getElem_cons_zero, List.getElem_cons_succ]
              refine AnyBut.takeE (i := 21) (v := undef) rfl (by kernel_rfl) (by kernel_rfl) (by kernel_rfl) (by kernel_rfl) (fun _ _ _ h => h) (Or.inr ⟨by rfl, rfl⟩) hS ?_
              try simp only [Act.put, List.setIfInBounds_toArray, List.set_cons_zero, List.set_cons_succ, List.getElem_toArray, List.getElem_cons_zero, List.getElem_cons_succ]
              refine AnyBut.takeE (i := 22) (v := undef) rfl (by kernel_rfl) (by kernel_rfl) (by kernel_rfl) (by kernel_rfl) (fun _ _ _ h => h) (Or.inr ⟨by rfl, rfl⟩) hS ?_
              try simp only [Act.put, List.setIfInBounds_toArray, List.set_cons_zero, List.set_cons_succ, List.getElem_toArray, List.getElem_cons_zero, List.getElem_cons_succ]
              refine AnyBut.takeE (i := 23) (v := ?_) rfl (by kernel_rfl) (by kernel_rfl) (by kernel_rfl) (by kernel_rfl) (fun _ _ _ h => h) (Or.inl ⟨by rfl, ?_⟩) hS ?_
              rotate_left
              · (intro wq hq; go_simp; try with_reducible rfl)
              try simp only [Act.put, List.setIfInBounds_toArray, List.set_cons_zero, List.set_cons_succ, List.getElem_toArray, List.getElem_cons_zero, List.getElem_cons_succ]
              refine AnyBut.done (by kernel_rfl) ?_ _
              try dsimp only [Exit.then]
              clear hS hbe
              have hcl : clAt tw X Y = false := by unfold clAt; rw [← Ht.out]; rfl
              go_wp2_with fail
              go_roundw
              case rel =>
                refine ⟨q + 1, by rw [Hm.out]; omega, by go_num, hSd.out, fun b hb => ?_⟩
                rcases Nat.lt_or_ge b q with h | h
                · exact HP2.out b h
                · obtain rfl : b = q := by omega
                  rw [← HX.out, ← HY.out]; exact hcl
              case measure => simp [intOf]; omega
          | false =>
              refine wp_calm ?_
              refine wp_region_but (z := 999) (SBw w) (by kernel_rfl) ?_
              have hS : (SBw w) wr.drew := hSd.out
              refine AnyBut.takeE (i := 0) (v := ?_) rfl (by kernel_rfl) (by kernel_rfl) (by kernel_rfl) (by kernel_rfl) (fun _ _ _ h => h) (Or.inl ⟨by rfl, ?_⟩) hS ?_
              rotate_left
              · (intro wq hq; go_simp; try with_reducible rfl)
              try simp only [Act.put, List.setIfInBounds_toArray, List.set_cons_zero, List.set_cons_succ, List.getElem_toArray, List.getElem_cons_zero, List.getElem_cons_succ]
              refine AnyBut.takeE (i := 1) (v := ?_) rfl (by kernel_rfl) (by kernel_rfl) (by kernel_rfl) (by kernel_rfl) (fun _ _ _ h => h) (Or.inl ⟨by rfl, ?_⟩) hS ?_
              rotate_left
              · (intro wq hq; go_simp; try with_reducible rfl)
              try simp only [Act.put, List.setIfInBounds_toArray, List.set_cons_zero, List.set_cons_succ, List.getElem_toArray, List.getElem_cons_zero, List.getElem_cons_succ]
              refine AnyBut.takeE (i := 2) (v := .pointer (some ⟨b, o + p, none⟩)) rfl (by kernel_rfl) (by kernel_rfl) (by kernel_rfl) (by kernel_rfl) (fun _ _ _ h => h) (Or.inl ⟨by rfl, ?_⟩) hS ?_
              · (intro wq hq; go_simp)
              try simp only [Act.put, List.setIfInBounds_toArray, List.set_cons_zero, List.set_cons_succ, List.getElem_toArray, List.getElem_cons_zero, List.getElem_cons_succ]
              refine AnyBut.takeE (i := 3) (v := .slice u1 64 c1) rfl (by kernel_rfl) (by kernel_rfl) (by kernel_rfl) (by kernel_rfl) (fun _ _ _ h => h) (Or.inl ⟨by rfl, ?_⟩) hS ?_
              · (intro wq hq; have h1 := (Below.cell hq (p := ⟨b, o + p, none⟩) hbl).trans C1.out; go_simp)
              try simp only [Act.put, List.setIfInBounds_toArray, List.set_cons_zero, List.set_cons_succ, List.getElem_toArray, List.getElem_cons_zero, List.getElem_cons_succ]
              refine AnyBut.takeE (i := 4) (v := .string sx) rfl (by kernel_rfl) (by kernel_rfl) (by kernel_rfl) (by kernel_rfl) (fun _ _ _ h => h) (Or.inl ⟨by rfl, ?_⟩) hS ?_
              · (intro wq hq; have h1 := K1.out wq hq; go_simp)
              try simp only [Act.put, List.setIfInBounds_toArray, List.set_cons_zero, List.set_cons_succ, List.getElem_toArray, List.getElem_cons_zero, List.getElem_cons_succ]
              refine AnyBut.takeE (i := 5) (v := ?_) rfl (by kernel_rfl) (by kernel_rfl) (by kernel_rfl) (by kernel_rfl) (fun _ _ _ h => h) (Or.inl ⟨by rfl, ?_⟩) hS ?_
              rotate_left
              · (intro wq hq; go_simp; try with_reducible rfl)
              try simp only [Act.put, List.setIfInBounds_toArray, List.set_cons_zero, List.set_cons_succ, List.getElem_toArray, List.getElem_cons_zero, List.getElem_cons_succ]
              refine AnyBut.takeE (i := 6) (v := ?_) rfl (by kernel_rfl) (by kernel_rfl) (by kernel_rfl) (by kernel_rfl) (fun _ _ _ h => h) (Or.inl ⟨by rfl, ?_⟩) hS ?_
              rotate_left
              · (intro wq hq; go_simp; try with_reducible rfl)
              try simp only [Act.put, List.setIfInBounds_toArray, List.set_cons_zero, List.set_cons_succ, List.getElem_toArray, List.getElem_cons_zero, List.getElem_cons_succ]
              refine AnyBut.takeE (i := 7) (v := .pointer (some ⟨b', o' + q, none⟩)) rfl (by kernel_rfl) (by kernel_rfl) (by kernel_rfl) (by kernel_rfl) (fun _ _ _ h => h) (Or.inl ⟨by rfl, ?_⟩) hS ?_
              · (intro wq hq; go_simp)
              try simp only [Act.put, List.setIfInBounds_toArray, List.set_cons_zero, List.set_cons_succ, List.getElem_toArray, List.getElem_cons_zero, List.getElem_cons_succ]
              refine AnyBut.takeE (i := 8) (v := .slice u2 64 c2) rfl (by kernel_rfl) (by kernel_rfl) (by kernel_rfl) (by kernel_rfl) (fun _ _ _ h => h) (Or.inl ⟨by rfl, ?_⟩) hS ?_
              · (intro wq hq; have h1 := (Below.cell hq (p := ⟨b', o' + q, none⟩) hbl').trans C2.out; go_simp)
              try simp only [Act.put, List.setIfInBounds_toArray, List.set_cons_zero, List.set_cons_succ, List.getElem_toArray, List.getElem_cons_zero, List.getElem_cons_succ]
              refine AnyBut.takeE (i := 9) (v := .string sy) rfl (by kernel_rfl) (by kernel_rfl) (by kernel_rfl) (by kernel_rfl) (fun _ _ _ h => h) (Or.inl ⟨by rfl, ?_⟩) hS ?_
              · (intro wq hq; have h1 := K2.out wq hq; go_simp)
              try simp only [Act.put, List.setIfInBounds_toArray, List.set_cons_zero, List.set_cons_succ, List.getElem_toArray, List.getElem_cons_zero, List.getElem_cons_succ]
              refine AnyBut.takeE (i := 10) (v := .bool true) rfl (by kernel_rfl) (by kernel_rfl) (by kernel_rfl) (by kernel_rfl) (fun _ _ _ h => h) (Or.inl ⟨by rfl, ?_⟩) hS ?_
              · (intro wq hq; go_simp)
              try simp only [Act.put, List.setIfInBounds_toArray, List.set_cons_zero, List.set_cons_succ, List.getElem_toArray, List.getElem_cons_zero, List.getElem_cons_succ]
              refine AnyBut.takeE (i := 11) (v := ?_) rfl (by kernel_rfl) (by kernel_rfl) (by kernel_rfl) (by kernel_rfl) (fun _ _ _ h => h) (Or.inl ⟨by rfl, ?_⟩) hS ?_
              rotate_left
              · (intro wq hq; go_simp; try with_reducible rfl)
              try simp only [Act.put, List.setIfInBounds_toArray, List.set_cons_zero, List.set_cons_succ, List.getElem_toArray, List.getElem_cons_zero, List.getElem_cons_succ]
              refine AnyBut.takeE (i := 12) (v := ?_) rfl (by kernel_rfl) (by kernel_rfl) (by kernel_rfl) (by kernel_rfl) (fun _ _ _ h => h) (Or.inl ⟨by rfl, ?_⟩) hS ?_
              rotate_left
              · (intro wq hq; go_simp; try with_reducible rfl)
              try simp only [Act.put, List.setIfInBounds_toArray, List.set_cons_zero, List.set_cons_succ, List.getElem_toArray, List.getElem_cons_zero, List.getElem_cons_succ]
              refine AnyBut.takeE (i := 13) (v := ?_) rfl (by kernel_rfl) (by kernel_rfl) (by kernel_rfl) (by kernel_rfl) (fun _ _ _ h => h) (Or.inl ⟨by rfl, ?_⟩) hS ?_
              rotate_left
              · (intro wq hq; go_simp; try with_reducible rfl)
              try simp only [Act.put, List.setIfInBounds_toArray, List.set_cons_zero, List.set_cons_succ, List.getElem_toArray, List.getElem_cons_zero, List.getElem_cons_succ]
              refine AnyBut.takeE (i := 14) (v := .pointer (some ⟨b, o + p, none⟩)) rfl (by kernel_rfl) (by kernel_rfl) (by kernel_rfl) (by kernel_rfl) (fun _ _ _ h => h) (Or.inl ⟨by rfl, ?_⟩) hS ?_
              · (intro wq hq; go_simp)
              try simp only [Act.put, List.setIfInBounds_toArray, List.set_cons_zero, List.set_cons_succ, List.getElem_toArray, List.getElem_cons_zero, List.getElem_cons_succ]
              refine AnyBut.takeE (i := 15) (v := .slice u1 64 c1) rfl (by kernel_rfl) (by kernel_rfl) (by kernel_rfl) (by kernel_rfl) (fun _ _ _ h => h) (Or.inl ⟨by rfl, ?_⟩) hS ?_
              · (intro wq hq; have h1 := (Below.cell hq (p := ⟨b, o + p, none⟩) hbl).trans C1.out; go_simp)
              try simp only [Act.put, List.setIfInBounds_toArray, List.set_cons_zero, List.set_cons_succ, List.getElem_toArray, List.getElem_cons_zero, List.getElem_cons_succ]
              refine AnyBut.takeE (i := 17) (v := ?_) rfl (by kernel_rfl) (by kernel_rfl) (by kernel_rfl) (by kernel_rfl) (fun _ _ _ h => h) (Or.inl ⟨by rfl, ?_⟩) hS ?_
              rotate_left
              · (intro wq hq; go_simp; try with_reducible rfl)
              try simp only [Act.put, List.setIfInBounds_toArray, List.set_cons_zero, List.set_cons_succ, List.getElem_toArray, List.getElem_cons_zero, List.getElem_cons_succ]
              refine AnyBut.takeE (i := 18) (v := ?_) rfl (by kernel_rfl) (by kernel_rfl) (by kernel_rfl) (by kernel_rfl) (fun _ _ _ h => h) (Or.inl ⟨by rfl, ?_⟩) hS ?_
              rotate_left
              · (intro wq hq; go_simp; try with_reducible rfl)
              try simp only [Act.put, List.setIfInBounds_toArray, List.set_cons_zero, List.set_cons_succ, List.getElem_toArray, List.getElem_cons_zero, List.getElem_cons_succ]
              refine AnyBut.takeE (i := 19) (v := .pointer (some ⟨b', o' + q, none⟩)) rfl (by kernel_rfl) (by kernel_rfl) (by kernel_rfl) (by kernel_rfl) (fun _ _ _ h => h) (Or.inl ⟨by rfl, ?_⟩) hS ?_
              · (intro wq hq; go_simp)
              try simp only [Act.put, List.setIfInBounds_toArray, List.set_cons_zero, List.set_cons_succ, List.getElem_toArray, List.getElem_cons_zero, List.getElem_cons_succ]
              refine AnyBut.takeE (i := 20) (v := .slice u2 64 c2) rfl (by kernel_rfl) (by kernel_rfl) (by kernel_rfl) (by kernel_rfl) (fun _ _ _ h => h) (Or.inl ⟨by rfl, ?_⟩) hS ?_
              · (intro wq hq; have h1 := (Below.cell hq (p := ⟨b', o' + q, none⟩) hbl').trans C2.out; go_simp)
              try simp only [Act.put, List.setIfInBounds_toArray, List.set_cons_zero, List.set_cons_succ, List.getElem_toArray, List.getElem_cons_zero, List.getElem_cons_succ]
              refine AnyBut.gone (i := 16) (by kernel_rfl) rfl (by rfl) (fun K hK => ?_)
              go_simp
              (with_reducible refine (F1.out _ hS).mono ?_)
              rintro e W1 ⟨rfl, hb1⟩
              dsimp only
              have hS1 : SBw w W1 := SBw.next hS hb1
              clear hb1
              refine hK _ _ (fun _ => hS1) ?_
              clear hK K
              try simp only [Act.put, List.setIfInBounds_toArray, List.set_cons_zero, List.set_cons_succ, List.getElem_toArray, List.getElem_cons_zero, List.getElem_cons_succ]
              have hS := hS1
              refine AnyBut.gone (i := 21) (by kernel_rfl) rfl (by rfl) (fun K hK => ?_)
              go_simp
              (with_reducible refine (F2.out _ hS).mono ?_)
              rintro e W2 ⟨rfl, hb2⟩
              dsimp only
              have hS2 : SBw w W2 := SBw.next hS hb2
              clear hb2
              refine hK _ _ (fun _ => hS2) ?_
              clear hK K
              try simp only [Act.put, List.setIfInBounds_toArray, List.set_cons_zero, List.set_cons_succ, List.getElem_toArray, List.getElem_cons_zero, List.getElem_cons_succ]
              have hS := hS2
              have heq := eql25 (tw X) (tw Y) (HT.out.len X) (HT.out.len Y)
              obtain ⟨r, hr⟩ : ∃ r, r = decide (tw X = tw Y) := ⟨_, rfl⟩
              rw [← hr] at heq
              have Hr := Lib.hid hr
              clear hr
              generalize tw X = DX at heq ⊢
              generalize tw Y = DY at heq ⊢
              refine AnyBut.takeE (i := 22) (v := .bool r) rfl (by kernel_rfl) (by kernel_rfl) (by kernel_rfl) (by kernel_rfl) (fun _ _ _ h => h) (Or.inl ⟨by rfl, ?_⟩) hS ?_
              · (intro wq hq; go_simp)
              try simp only [Act.put, List.setIfInBounds_toArray, List.set_cons_zero, List.set_cons_succ, List.getElem_toArray, List.getElem_cons_zero, List.getElem_cons_succ]
              refine AnyBut.takeE (i := 23) (v := ?_) rfl (by kernel_rfl) (by kernel_rfl) (by kernel_rfl) (by kernel_rfl) (fun _ _ _ h => h) (Or.inl ⟨by rfl, ?_⟩) hS ?_
              rotate_left
              · (intro wq hq; go_simp; try with_reducible rfl)
              try simp only [Act.put, List.setIfInBounds_toArray, List.set_cons_zero, List.set_cons_succ, List.getElem_toArray, List.getElem_cons_zero, List.getElem_cons_succ]
              refine AnyBut.done (by kernel_rfl) ?_ _
              try dsimp only [Exit.then]
              clear hbe heq
              cases r with
              | true =>
                have hcl : clAt tw X Y = true := by unfold clAt; rw [← Ht.out, ← Hr.out]; rfl
                go_wp2_with fail
                go_ret
                refine ⟨?_, hS2⟩
                rw [HR.out, clashB_of (p := p) (q := q) (by rw [Hn.out]; exact hlt) (by rw [Hm.out]; exact hqt) (by rw [← HX.out, ← HY.out]; exact hcl)]
                rfl
              | false =>
                have hcl : clAt tw X Y = false := by unfold clAt; rw [← Ht.out, ← Hr.out]; rfl
                go_wp2_with fail
                go_roundw
                case rel =>
                  refine ⟨q + 1, by rw [Hm.out]; omega, by go_num, hS2, fun b hb => ?_⟩
                  rcases Nat.lt_or_ge b q with h | h
                  · exact HP2.out b h
                  · obtain rfl : b = q := by omega
                    rw [← HX.out, ← HY.out]; exact hcl
                case measure => simp [intOf]; omega
        · have hqt' : ¬ (q : Int) < (n' : Int) := by omega
          obtain rfl : q = n' := by omega
          go_wp2_with fail
          go_roundw
          case rel =>
            refine ⟨p + 1, by rw [Hn.out]; omega, by go_num, HB2.out, fun a b ha hb => ?_⟩
            rcases Nat.lt_or_ge a p with h | h
            · exact HP.out a b h hb
            · obtain rfl : a = p := by omega
              exact HP2.out b (by rw [← Hm.out]; exact hb)
          case measure => simp [intOf]; omega
    · have hlt' : ¬ (p : Int) < (n : Int) := by omega
      obtain rfl : p = n := by omega
      go_wp2_with fail
      go_ret
      refine ⟨?_, HB.out⟩
      rw [HR.out, clashB_not (fun a b ha hb => HP.out a b (by rw [← Hn.out]; exact ha) hb)]
      rfl
end Go.Proofs.YtihbmahjdmfjpaaDoor
