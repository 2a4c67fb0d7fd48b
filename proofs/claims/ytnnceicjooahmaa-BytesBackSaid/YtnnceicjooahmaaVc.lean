/- The document's own Take for whatever number; its Peek; its Value. -/
import Derived.Test.YtnnceicjooahmaaVb
import Derived.Outline
namespace Go.Proofs.Ytnnceicjooahmaa
open Go.RowKit
set_option linter.unusedVariables false
set_option linter.unusedSimpArgs false
theorem stQ_yes {X : List (BitVec 8)} {a : Nat} {gone : Bool} {n : Int} (ha : a ≤ X.length) (h : hasB (stQ X a gone) n = true) : gone = false ∧ ∃ k : Nat, n = k ∧ a + k ≤ X.length ∧ takeL (stQ X a gone) n = (X.drop a).take k ∧ cutS (stQ X a gone) n = some (X.drop (a + k)) := by
  cases gone with
  | true => cases h
  | false =>
    have h' : hasB (some (X.drop a)) n = true := h
    have hb := h'
    rw [show some (X.drop a) = stQ X a false from rfl, stQ_has X a ha] at hb
    have hb' : 0 ≤ n ∧ n ≤ (X.length : Int) - a := by simpa using hb
    refine ⟨rfl, n.toNat, by omega, by omega, (cut_yes h').1, ?_⟩
    have := (cut_yes h').2.1
    show cutS (some (X.drop a)) n = _
    rw [this, List.drop_drop]
theorem rtake_any (q B a cap : Nat) (gone : Bool) (A : Option Addr) (X : List (BitVec 8)) (n : Int) (w : World) (h : IsQ w B q X a gone A cap) (hB : B ≤ w.heap.size) (hX : X.length ≤ 100000000) :
    Calls Try.prog 15 #[.pointer (some ⟨q, 0, none⟩), .int .i64 n] w (RTakePost (takeL (stQ X a gone) n) (cutS (stQ X a gone) n) B q X A cap w) := by
  by_cases hh : hasB (stQ X a gone) n = true
  · obtain ⟨rfl, k, rfl, hk, e1, e2⟩ := stQ_yes h.at_ hh
    rw [e1, e2]
    exact rtake_yes q B a cap A X k w h hB hk hX
  · have hh' : hasB (stQ X a gone) n = false := by simpa using hh
    rw [(cut_no hh').1, (cut_no hh').2]
    exact rtake_no q B a cap gone A X n w h hh'
/-- What the document's Peek tells. -/
def RNewPost (L : List (BitVec 8)) (w : World) (e : Ending) (w' : World) : Prop := ∃ v, e = .returned v ∧ OB w' w.heap.size v L ∧ Below w.heap.size w w'
theorem rpeek_no (q B a cap : Nat) (gone : Bool) (A : Option Addr) (X : List (BitVec 8)) (n : Int) (w : World) (h : IsQ w B q X a gone A cap) (hn : hasB (stQ X a gone) n = false) :
    Calls Try.prog 19 #[.pointer (some ⟨q, 0, none⟩), .int .i64 n] w (RNewPost [] w) := by
  have c0 := h.blk.cell (j := 0) (v := .slice A X.length cap) rfl
  have c1 := h.blk.cell (j := 1) (v := .int .i64 a) rfl
  have c2 := h.blk.cell (j := 2) (v := .bool gone) rfl
  have ha := h.at_
  have hl := h.le
  have hm := h.cap_
  cases gone with
  | true =>
    clear h ha hn hl hm
    go_enter Try.func19, Try.ntmps19
    go_wp2
    go_quiet (fail)
    go_wp2
    go_ret
    exact ⟨_, rfl, OB.nil _ _, ⟨rfl, rfl, rfl, Nat.le_refl _, fun _ _ => rfl⟩⟩
  | false =>
    rw [stQ_has X a ha] at hn
    obtain ⟨m, hm⟩ : ∃ m, m = X.length := ⟨_, rfl⟩
    rw [← hm] at hn c0 hl ha
    by_cases h0 : n < 0
    · clear h hn hm
      go_enter Try.func19, Try.ntmps19
      go_wp2
      go_quiet (fail)
      go_wp2
      go_ret
      exact ⟨_, rfl, OB.nil _ _, ⟨rfl, rfl, rfl, Nat.le_refl _, fun _ _ => rfl⟩⟩
    · have h1 : decide (n < 0) = false := by simpa using h0
      have h2 : (m : Int) - a < n := by simp at hn; omega
      have h3 : decide ((m : Int) - a < n) = true := by simpa using h2
      clear h hn hm
      go_enter Try.func19, Try.ntmps19
      go_wp2
      go_quiet (fail)
      go_wp2
      go_ret
      exact ⟨_, rfl, OB.nil _ _, ⟨rfl, rfl, rfl, Nat.le_refl _, fun _ _ => rfl⟩⟩
theorem rpeek_yes (q B a cap : Nat) (A : Option Addr) (X : List (BitVec 8)) (k : Nat) (w : World) (h : IsQ w B q X a false A cap) (hB : B ≤ w.heap.size) (hk : a + k ≤ X.length) (hX : X.length ≤ 100000000) :
    Calls Try.prog 19 #[.pointer (some ⟨q, 0, none⟩), .int .i64 k] w (RNewPost ((X.drop a).take k) w) := by
  have c0 := h.blk.cell (j := 0) (v := .slice A X.length cap) rfl
  have c1 := h.blk.cell (j := 1) (v := .int .i64 a) rfl
  have c2 := h.blk.cell (j := 2) (v := .bool false) rfl
  have hl := h.le
  have hm := h.cap_
  have HI := Lib.hid h
  have HX := Lib.hid hX
  have HBB := Lib.hid hB
  obtain ⟨m, hmm⟩ : ∃ m, m = X.length := ⟨_, rfl⟩
  have Hm := Lib.hid hmm
  rw [← hmm] at c0 hl hk
  have h0 : decide ((k : Int) < 0) = false := by simp
  have h1 : decide ((m : Int) - a < k) = false := by simp; omega
  have hm8 : m ≤ 100000000 := by omega
  clear h hmm hX hB
  go_enter Try.func19, Try.ntmps19
  go_wp2
  go_quiet (fail)
  go_wp2
  have hw14 : IntKind.i64.wrap ((a : Int) + (k : Int)) = ((a + k : Nat) : Int) := by rw [IntWalk.i64_in _ (by omega)]; simp
  generalize hw2 : w.drewN nq = w2
  have d0 : w2.cell? ⟨q, 0, none⟩ = some (.slice A m cap) := by rw [← hw2]; exact c0
  have d1 : w2.cell? ⟨q, 1, none⟩ = some (.int .i64 a) := by rw [← hw2]; exact c1
  have HW := Lib.hid hw2
  clear hw2 c0 c1
  have hI2 : IsQ w2 B q X a false A cap := by rw [← HW.out]; exact HI.out.drewN _
  have HI2 := Lib.hid hI2
  have hXk : ((X.drop a).take k).length = k := by rw [List.length_take, List.length_drop, ← Hm.out]; omega
  have HSrc := Lib.hid (src_len ((hI2.own.drop a hI2.le).take k (by rw [List.length_drop, ← Hm.out]; omega)).rd hXk)
  have HNil : Hid ((if cap = a then A else A.map (·.add a)) = none → cap - a = 0) := fun h => by
    by_cases e : cap = a
    · omega
    · rw [if_neg e] at h; have := hI2.nil_ (by simpa using h); omega
  have HXk := Lib.hid hXk
  clear hI2 hXk
  have c0 := d0
  have c1 := d1
  clear d0 d1
  refine wp_region_but (z := 17) (SQ q A m cap a) (by kernel_rfl) ?_
  have hS : (SQ q A m cap a) _ := ⟨c0, c1⟩
  refine AnyBut.take (i := 0) (v := ?_) rfl (by kernel_rfl) (by kernel_rfl) (by kernel_rfl) (by kernel_rfl) (fun _ _ _ h => h) (Or.inl ⟨by rfl, ?_⟩) hS ?_
  rotate_left
  · (intro wq hq; go_simp; try with_reducible rfl)
  try simp only [Act.put, List.setIfInBounds_toArray, List.set_cons_zero, List.set_cons_succ, List.getElem_toArray, List.getElem_cons_zero, List.getElem_cons_succ]
  refine AnyBut.take (i := 1) (v := ?_) rfl (by kernel_rfl) (by kernel_rfl) (by kernel_rfl) (by kernel_rfl) (fun _ _ _ h => h) (Or.inl ⟨by rfl, ?_⟩) hS ?_
  rotate_left
  · (intro wq hq; go_simp; try with_reducible rfl)
  try simp only [Act.put, List.setIfInBounds_toArray, List.set_cons_zero, List.set_cons_succ, List.getElem_toArray, List.getElem_cons_zero, List.getElem_cons_succ]
  refine AnyBut.take (i := 2) (v := ?_) rfl (by kernel_rfl) (by kernel_rfl) (by kernel_rfl) (by kernel_rfl) (fun _ _ _ h => h) (Or.inl ⟨by rfl, ?_⟩) hS ?_
  rotate_left
  · (intro wq hq; go_simp; try with_reducible rfl)
  try simp only [Act.put, List.setIfInBounds_toArray, List.set_cons_zero, List.set_cons_succ, List.getElem_toArray, List.getElem_cons_zero, List.getElem_cons_succ]
  refine AnyBut.take (i := 3) (v := ?_) rfl (by kernel_rfl) (by kernel_rfl) (by kernel_rfl) (by kernel_rfl) (fun _ _ _ h => h) (Or.inl ⟨by rfl, ?_⟩) hS ?_
  rotate_left
  · (intro wq hq; go_simp; try with_reducible rfl)
  try simp only [Act.put, List.setIfInBounds_toArray, List.set_cons_zero, List.set_cons_succ, List.getElem_toArray, List.getElem_cons_zero, List.getElem_cons_succ]
  refine AnyBut.take (i := 4) (v := ?_) rfl (by kernel_rfl) (by kernel_rfl) (by kernel_rfl) (by kernel_rfl) (fun _ _ _ h => h) (Or.inl ⟨by rfl, ?_⟩) hS ?_
  rotate_left
  · (intro wq hq; obtain ⟨d0, d1⟩ := hq; go_simp; try with_reducible rfl)
  try simp only [Act.put, List.setIfInBounds_toArray, List.set_cons_zero, List.set_cons_succ, List.getElem_toArray, List.getElem_cons_zero, List.getElem_cons_succ]
  refine AnyBut.take (i := 5) (v := ?_) rfl (by kernel_rfl) (by kernel_rfl) (by kernel_rfl) (by kernel_rfl) (fun _ _ _ h => h) (Or.inl ⟨by rfl, ?_⟩) hS ?_
  rotate_left
  · (intro wq hq; go_simp; try with_reducible rfl)
  try simp only [Act.put, List.setIfInBounds_toArray, List.set_cons_zero, List.set_cons_succ, List.getElem_toArray, List.getElem_cons_zero, List.getElem_cons_succ]
  refine AnyBut.take (i := 6) (v := ?_) rfl (by kernel_rfl) (by kernel_rfl) (by kernel_rfl) (by kernel_rfl) (fun _ _ _ h => h) (Or.inl ⟨by rfl, ?_⟩) hS ?_
  rotate_left
  · (intro wq hq; go_simp; try with_reducible rfl)
  try simp only [Act.put, List.setIfInBounds_toArray, List.set_cons_zero, List.set_cons_succ, List.getElem_toArray, List.getElem_cons_zero, List.getElem_cons_succ]
  refine AnyBut.take (i := 7) (v := ?_) rfl (by kernel_rfl) (by kernel_rfl) (by kernel_rfl) (by kernel_rfl) (fun _ _ _ h => h) (Or.inl ⟨by rfl, ?_⟩) hS ?_
  rotate_left
  · (intro wq hq; go_simp; try with_reducible rfl)
  try simp only [Act.put, List.setIfInBounds_toArray, List.set_cons_zero, List.set_cons_succ, List.getElem_toArray, List.getElem_cons_zero, List.getElem_cons_succ]
  refine AnyBut.take (i := 8) (v := ?_) rfl (by kernel_rfl) (by kernel_rfl) (by kernel_rfl) (by kernel_rfl) (fun _ _ _ h => h) (Or.inl ⟨by rfl, ?_⟩) hS ?_
  rotate_left
  · (intro wq hq; obtain ⟨d0, d1⟩ := hq; go_simp; try with_reducible rfl)
  try simp only [Act.put, List.setIfInBounds_toArray, List.set_cons_zero, List.set_cons_succ, List.getElem_toArray, List.getElem_cons_zero, List.getElem_cons_succ]
  refine AnyBut.take (i := 9) (v := ?_) rfl (by kernel_rfl) (by kernel_rfl) (by kernel_rfl) (by kernel_rfl) (fun _ _ _ h => h) (Or.inl ⟨by rfl, ?_⟩) hS ?_
  rotate_left
  · (intro wq hq; go_simp; try with_reducible rfl)
  try simp only [Act.put, List.setIfInBounds_toArray, List.set_cons_zero, List.set_cons_succ, List.getElem_toArray, List.getElem_cons_zero, List.getElem_cons_succ]
  refine AnyBut.take (i := 10) (v := ?_) rfl (by kernel_rfl) (by kernel_rfl) (by kernel_rfl) (by kernel_rfl) (fun _ _ _ h => h) (Or.inl ⟨by rfl, ?_⟩) hS ?_
  rotate_left
  · (intro wq hq; go_simp; try with_reducible rfl)
  try simp only [Act.put, List.setIfInBounds_toArray, List.set_cons_zero, List.set_cons_succ, List.getElem_toArray, List.getElem_cons_zero, List.getElem_cons_succ]
  refine AnyBut.take (i := 11) (v := ?_) rfl (by kernel_rfl) (by kernel_rfl) (by kernel_rfl) (by kernel_rfl) (fun _ _ _ h => h) (Or.inl ⟨by rfl, ?_⟩) hS ?_
  rotate_left
  · (intro wq hq; go_simp; try with_reducible rfl)
  try simp only [Act.put, List.setIfInBounds_toArray, List.set_cons_zero, List.set_cons_succ, List.getElem_toArray, List.getElem_cons_zero, List.getElem_cons_succ]
  refine AnyBut.take (i := 12) (v := ?_) rfl (by kernel_rfl) (by kernel_rfl) (by kernel_rfl) (by kernel_rfl) (fun _ _ _ h => h) (Or.inl ⟨by rfl, ?_⟩) hS ?_
  rotate_left
  · (intro wq hq; obtain ⟨d0, d1⟩ := hq; go_simp; try with_reducible rfl)
  try simp only [Act.put, List.setIfInBounds_toArray, List.set_cons_zero, List.set_cons_succ, List.getElem_toArray, List.getElem_cons_zero, List.getElem_cons_succ]
  refine AnyBut.take (i := 13) (v := ?_) rfl (by kernel_rfl) (by kernel_rfl) (by kernel_rfl) (by kernel_rfl) (fun _ _ _ h => h) (Or.inl ⟨by rfl, ?_⟩) hS ?_
  rotate_left
  · (intro wq hq; go_simp; try with_reducible rfl)
  try simp only [Act.put, List.setIfInBounds_toArray, List.set_cons_zero, List.set_cons_succ, List.getElem_toArray, List.getElem_cons_zero, List.getElem_cons_succ]
  refine AnyBut.take (i := 14) (v := .int .i64 ((a + k : Nat) : Int)) rfl (by kernel_rfl) (by kernel_rfl) (by kernel_rfl) (by kernel_rfl) (fun _ _ _ h => h) (Or.inl ⟨by rfl, ?_⟩) hS ?_
  · intro wq hq
    go_simp
    skip
  try simp only [Act.put, List.setIfInBounds_toArray, List.set_cons_zero, List.set_cons_succ, List.getElem_toArray, List.getElem_cons_zero, List.getElem_cons_succ]
  refine AnyBut.take (i := 15) (v := .slice (if cap = a then A else A.map (·.add a)) k (cap - a)) rfl (by kernel_rfl) (by kernel_rfl) (by kernel_rfl) (by kernel_rfl) (fun _ _ _ h => h) (Or.inl ⟨by rfl, ?_⟩) hS ?_
  · intro wq hq
    go_simp
    rw [if_pos (by omega), if_pos (by omega), show ((a : Int) + (k : Int)).toNat - a = k by omega]
  try simp only [Act.put, List.setIfInBounds_toArray, List.set_cons_zero, List.set_cons_succ, List.getElem_toArray, List.getElem_cons_zero, List.getElem_cons_succ]
  refine AnyBut.gone (i := 16) (by kernel_rfl) rfl (by rfl) (fun K hK => ?_)
  refine wp_app (.tmp 28) (.tmp 43) rfl rfl w2.heap.size (.slice none 0 0) 0 [] rfl (OB.nil w2 w2.heap.size) (if cap = a then A else A.map (·.add a)) k (cap - a) (vbs ((X.drop a).take k)) rfl HSrc.out HNil.out (by omega) (Nat.le_refl _) ?_
  intro v w3 ho3 hg3
  have hS : SQ q A m cap a w3 := ⟨hg3.cell hS.1 (fun e => by simp [Value.ownBlock] at e), hg3.cell hS.2 (fun e => by simp [Value.ownBlock] at e)⟩
  refine hK _ _ (fun _ => hS) ?_
  clear hK K
  refine AnyBut.gone (i := 17) (by kernel_rfl) rfl (by rfl) (fun K hK => ?_)
  go_simp
  refine hK _ _ (fun h => absurd rfl h) ?_
  clear hK K
  refine AnyBut.done (by kernel_rfl) ?_ _
  dsimp only [Exit.then]
  have hb3 : Below w2.heap.size w2 w3 := ⟨hg3.os, hg3.tape, hg3.output, hg3.size, fun b hb => hg3.block b hb (by simp [Value.ownBlock])⟩
  have HG3 := Lib.hid hb3
  have HO3 := Lib.hid ho3
  clear hg3 ho3 hS hb3 HSrc HNil hw14
  generalize (if cap = a then A else A.map (·.add a)) = AA
  go_wp2
  go_ret
  have hs : w2.heap.size = w.heap.size := by rw [← HW.out]; rfl
  have ho : OB w3 w2.heap.size v ((X.drop a).take k) := by
    have h := HO3.out
    unfold OB
    rw [HXk.out]
    simpa using h
  rw [hs] at ho
  refine ⟨v, rfl, ho, ?_⟩
  have h := HG3.out
  rw [← HW.out] at h
  exact ⟨h.os, h.tape, h.output, h.size, fun b hb => h.block b hb⟩
theorem rpeek_any (q B a cap : Nat) (gone : Bool) (A : Option Addr) (X : List (BitVec 8)) (n : Int) (w : World) (h : IsQ w B q X a gone A cap) (hB : B ≤ w.heap.size) (hX : X.length ≤ 100000000) :
    Calls Try.prog 19 #[.pointer (some ⟨q, 0, none⟩), .int .i64 n] w (RNewPost (takeL (stQ X a gone) n) w) := by
  by_cases hh : hasB (stQ X a gone) n = true
  · obtain ⟨rfl, k, rfl, hk, e1, e2⟩ := stQ_yes h.at_ hh
    rw [e1]
    exact rpeek_yes q B a cap A X k w h hB hk hX
  · have hh' : hasB (stQ X a gone) n = false := by simpa using hh
    rw [(cut_no hh').1]
    exact rpeek_no q B a cap gone A X n w h hh'
theorem lev_drop (X : List (BitVec 8)) (k : Nat) (hk : k < X.length) : lev (X.drop k) = (X.getD k 0).toNat + 256 * lev (X.drop (k + 1)) := by
  rw [List.drop_eq_getElem_cons hk]
  simp [lev, List.getD, hk]
theorem lev_small (X : List (BitVec 8)) (k : Nat) (h8 : X.length ≤ 8) : lev (X.drop k) < 18446744073709551616 := by
  have h := lev_lt (X.drop k)
  have : 2 ^ (8 * (X.drop k).length) ≤ 2 ^ 64 := Nat.pow_le_pow_right (by omega) (by rw [List.length_drop]; omega)
  omega
theorem value_any (A : Option Addr) (X : List (BitVec 8)) (cap B : Nat) (w : World) (hR : Rd w B A X) (h8 : X.length ≤ 8) :
    Calls Try.prog 31 #[.slice A X.length cap] w fun e w' => e = .returned (.int .u64 (lev X)) ∧ w = w' := by
  obtain ⟨m, hm⟩ : ∃ m, m = X.length := ⟨_, rfl⟩
  have Hm := Lib.hid hm
  have hm8 : m ≤ 8 := by omega
  have HR := Lib.hid hR
  have H8 := Lib.hid h8
  rw [← hm]
  clear hm hR h8
  go_enter Try.func31, Try.ntmps31
  go_wp2
  go_loop [3, 4] (fun x i => ∃ j : Nat, j ≤ m ∧ i = .int .i64 ((j : Int) - 1) ∧ x = .int .u64 (lev (X.drop j))) (fun _ i => (intOf i + 1).toNat)
  case atStart => exact ⟨m, Nat.le_refl _, rfl, by rw [Hm.out, List.drop_length]; rfl⟩
  case round =>
    obtain ⟨j, hj, rfl, rfl⟩ := hrel
    by_cases h0 : 0 < j
    · obtain ⟨i, rfl⟩ : ∃ i, j = i + 1 := ⟨j - 1, by omega⟩
      obtain ⟨b, o, rfl, _, hc⟩ := HR.out (by have := Hm.out; omega)
      have c0 := hc i (by have := Hm.out; omega)
      have e1 := lev_drop X i (by have := Hm.out; omega)
      have b1 := lev_small X i H8.out
      have e0 : (((i + 1 : Nat) : Int) - 1) = (i : Int) := by omega
      rw [e0]
      obtain ⟨y, hy⟩ : ∃ y, y = X.getD i 0 := ⟨_, rfl⟩
      obtain ⟨u, hu⟩ : ∃ u, u = lev (X.drop (i + 1)) := ⟨_, rfl⟩
      obtain ⟨v, hv⟩ : ∃ v, v = lev (X.drop i) := ⟨_, rfl⟩
      rw [← hy] at c0 e1
      rw [← hu, ← hv] at e1
      rw [← hv] at b1
      rw [← hu]
      have Hv := Lib.hid hv
      have HE := Lib.hid e1
      have hyb := y.isLt
      have HY : Hid (Bt y = (y.toNat : Int)) := rfl
      have Hb1 := Lib.hid b1
      have hu2 : (256 * (u : Int)) < 18446744073709551616 := by omega
      have hu0 : (0 : Int) ≤ 256 * (u : Int) := by omega
      clear hc hy hu hv e1 e0 b1
      go_wp2
      go_round
      case rel => exact ⟨i, by omega, rfl, by rw [← Hv.out, HE.out]; refine congrArg _ ?_; rw [show IntKind.u64.wrap (Bt y) = Bt y by rw [IntKind.wrap_u64]; unfold Bt; omega, IntKind.wrap_u64, HY.out]; have := Hb1.out; have := HE.out; omega⟩
      case measure => simp [intOf]
    · obtain rfl : j = 0 := by omega
      go_wp2
      go_ret
      exact ⟨rfl, rfl⟩
end Go.Proofs.Ytnnceicjooahmaa
