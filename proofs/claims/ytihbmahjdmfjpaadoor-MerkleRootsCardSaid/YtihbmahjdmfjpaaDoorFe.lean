/- The iterator of slices.Chunk: which parts it hands over, and what the rounds must leave as it is. -/
import Derived.Test.YtihbmahjdmfjpaaDoorFd
import Derived.Outline
import Derived.StillTailTactics
namespace Go.Proofs.YtihbmahjdmfjpaaDoor
open Go.RowKit
set_option linter.unusedVariables false
set_option linter.unusedSimpArgs false
set_option maxRecDepth 100000
/-- Blocks of these types stay as they are. -/
def KpT (Ts : List TypeId) (W W' : World) : Prop := ∀ (b : Nat) (cs : Array Value) (T : TypeId) (m : Nat × Nat), W.heap[b]? = some (.cells cs T m) → T ∈ Ts → W'.heap[b]? = some (.cells cs T m)
theorem KpT.trans {Ts : List TypeId} {A B C : World} (h : KpT Ts A B) (k : KpT Ts B C) : KpT Ts A C := fun b cs T m hb hT => k b cs T m (h b cs T m hb hT) hT
theorem KpT.putObj {Ts : List TypeId} (W : World) (l : Nat) (o o' : Obj) (h : W.heap[l]? = some o) (ho : o.isCells = false) : KpT Ts W (W.putObj l o') := fun b cs T m hb _ => by
  rw [World.putObj_heap_other (fun e => ?_)]
  · exact hb
  · subst e; rw [h] at hb; cases hb; cases ho
theorem KpT.below {Ts : List TypeId} {W W' : World} (h : Below W.heap.size W W') : KpT Ts W W' := fun b cs T m hb _ => (h.block b (Array.getElem?_eq_some_iff.1 hb).1).trans hb
theorem KpT.blk {Ts : List TypeId} {W W' : World} (h : KpT Ts W W') {b T : Nat} {vs : List Value} (hb : Blk W b T vs) (hT : T ∈ Ts) : Blk W' b T vs := h b _ T _ hb hT
/-- The k-th part of a slice, two elements of 32 cells at most. -/
def chV (b o n k : Nat) : Value := .slice (some ⟨b, o + (2 * k) * 32, none⟩) (min 2 (n - 2 * k)) (min 2 (n - 2 * k))
theorem chunk_val (A : Option Addr) (n c : Nat) (w : World) : Calls Tryd.prog 48 #[.slice A n c, .int .i64 2] w fun e w' => e = .returned (.func (.func 56) #[] #[.pointer (some ⟨w.heap.size, 0, none⟩), .pointer (some ⟨w.heap.size + 1, 0, none⟩)]) ∧ w' = (w.alloc (.cells #[.slice A n c] 22)).alloc (.cells #[.int .i64 2] 3) := by
  go_enter Tryd.func48, Tryd.ntmps48
  go_wp2
  go_ret
  exact ⟨rfl, rfl⟩
theorem sl22_m (b o n c s m : Nat) (hl : s < s + m) (hc : s + m ≤ c) (w : World) : (Instr.slice 22 (.slice (some ⟨b, o, none⟩) n c) (some (.int .i64 (s : Int))) (some (.int .i64 ((s : Int) + (m : Int)))) (some (.int .i64 ((s : Int) + (m : Int))))).run Tryd.prog w = .ok (.slice (some ⟨b, o + s * 32, none⟩) m m) w := by
  have hs : (sizeOf (Tryd.prog.elem 22)).run Tryd.prog w = .ok 32 w := by kernel_rfl
  rw [run_slice_lhm w 22 (some ⟨b, o, none⟩) n c (by kernel_rfl) .i64 .i64 .i64 (s : Int) ((s : Int) + m) ((s : Int) + m) (by omega) (by omega) (by omega) (by omega), hs]
  have e1 : ((s : Int) + (m : Int)).toNat = s + m := by omega
  simp [Result.andThen, sliced, e1, Addr.add_mid]
  omega
theorem drewN_grown (w : World) (k : Nat) (r : Option Nat) : w.grownBy (w.drewN k) r := ⟨rfl, rfl, rfl, Nat.le_refl _, fun _ _ _ => rfl⟩
def RelC (b0 b1 : Nat) (A : Option Addr) (n c : Nat) (J : Nat → World → Prop) (i : Value) (wr : World) : Prop :=
  ∃ k, 2 * k ≤ n + 1 ∧ i = .int .i64 ((2 * k : Nat) : Int) ∧ J k wr ∧ Blk wr b0 22 [.slice A n c] ∧ Blk wr b1 3 [.int .i64 2]
set_option maxHeartbeats 2000000 in
theorem chunk_seq (A : Option Addr) (n c b o b0 b1 : Nat) (w : World) (h0 : Blk w b0 22 [.slice A n c]) (h1 : Blk w b1 3 [.int .i64 2]) (hA : 0 < n → A = some ⟨b, o, none⟩) (hn : n ≤ 1000000) (hc : n ≤ c) :
    SeqN Tryd.prog 56 #[.pointer (some ⟨b0, 0, none⟩), .pointer (some ⟨b1, 0, none⟩)] (fun k vs _ => vs = #[chV b o n k]) (KpT [22, 3]) ((n + 1) / 2) w := by
  intro l J Jx W hW hJ hJx hY hJ0
  show Calls Tryd.prog 56 #[.func (.yield l) #[] #[], .pointer (some ⟨b0, 0, none⟩), .pointer (some ⟨b1, 0, none⟩)] W _
  have HB0 := Lib.hid (h0.below hW h0.lt)
  have HB1 := Lib.hid (h1.below hW h1.lt)
  have HA := Lib.hid hA
  have HJ := Lib.hid hJ
  have HY := Lib.hid hY
  have H00 := Lib.hid hJ0
  clear h0 h1 hA hJ hJx hY hJ0 hW
  go_enter Tryd.func56, Tryd.ntmps56
  go_wp2_with fail
  go_loopw [4] (fun iv wr => RelC b0 b1 A n c J iv wr) (fun iv _ => (n + 2 - intOf iv).toNat)
  case atStart => exact ⟨0, by omega, rfl, H00.out, HB0.out, HB1.out⟩
  case round =>
    obtain ⟨k, hk, rfl, hJk, hB0, hB1⟩ := hrel
    obtain ⟨s, hs⟩ : ∃ s, s = 2 * k := ⟨_, rfl⟩
    rw [← hs]
    have Hs := Lib.hid hs
    have c0 := hB0.cell (j := 0) (v := .slice A n c) rfl
    have c1 := hB1.cell (j := 0) (v := .int .i64 2) rfl
    by_cases hlt : s < n
    · obtain rfl := HA.out (by omega)
      have hlt' : (s : Int) < (n : Int) := by omega
      have hsc : s ≤ c := by omega
      have hs6 : s ≤ 1000000 := by omega
      obtain ⟨m, hm⟩ : ∃ m, m = min 2 (n - s) := ⟨_, rfl⟩
      have Hm := Lib.hid hm
      have hmi : min (2 : Int) ((n - s : Nat) : Int) = (m : Int) := by omega
      have H0 := Lib.hid hB0
      have H1 := Lib.hid hB1
      have HJk := Lib.hid hJk
      clear hs hm hB0 hB1 hJk hk hlt HB0 HB1 H00
      go_upto_region 3 with fail
      go_quiet (fail)
      go_upto_region 4 with fail
      have hmn : m ≤ 2 := by have := Hm.out; omega
      have hm0 : s < s + m := by have := Hm.out; have := Hs.out; omega
      have hsl := sl22_m b o n c s m hm0 (by have := Hm.out; omega)
      obtain ⟨fn, tmps, assign, body, hy, hR⟩ := HY.out k #[chV b o n k] (wr.drewN nq) (HJ.out k _ _ none HJk.out (drewN_grown _ _ _) (fun r e => by cases e)) (by have := Hs.out; omega) rfl
      rw [show chV b o n k = .slice (some ⟨b, o + s * 32, none⟩) m m by unfold chV; rw [← Hs.out, ← Hm.out]] at hy
      have HR := Lib.hid hR
      clear hR hmi hm0
      refine (wpIn_wide (n := 1)).1 ?_
      gi_wp2
      refine HR.out.mono ?_
      rintro e W3 (⟨rfl, hJ3, hk3⟩ | ⟨rfl, hJx3⟩)
      · have G0 := hk3.blk (show Blk (wr.drewN nq) b0 22 [.slice (some ⟨b, o, none⟩) n c] from H0.out) (by simp)
        have G1 := hk3.blk (show Blk (wr.drewN nq) b1 3 [.int .i64 2] from H1.out) (by simp)
        have d1 := G1.cell (j := 0) (v := .int .i64 2) rfl
        have HG0 := Lib.hid G0
        have HG1 := Lib.hid G1
        have HJ3 := Lib.hid hJ3
        clear hJ3 hk3 G0 G1 c0 c1 hy hsl HR
        gi_wp2
        go_wp2_with fail
        go_roundw
        case rel => exact ⟨k + 1, by have := Hs.out; omega, by have := Hs.out; refine congrArg _ ?_; omega, HJ3.out, HG0.out, HG1.out⟩
        case measure => simp [intOf]; omega
      · have HJx3 := Lib.hid hJx3
        clear hJx3 c0 c1 hy hsl HR
        gi_wp2
        go_wp2_with fail
        refine bodyPost_ret (results_none rfl _ _ _) rfl ?_
        exact ⟨⟨_, rfl⟩, .inr ⟨k + 1, by have := Hs.out; omega, HJx3.out⟩⟩
    · have HJk := Lib.hid hJk
      have hlt' : ¬ (s : Int) < (n : Int) := by omega
      have hkn : k = (n + 1) / 2 := by omega
      have Hkn := Lib.hid hkn
      clear hB0 hB1 hJk hkn hs
      go_wp2_with fail
      go_end0
      exact ⟨⟨_, rfl⟩, .inl (by rw [← Hkn.out]; exact HJk.out)⟩
end Go.Proofs.YtihbmahjdmfjpaaDoor
