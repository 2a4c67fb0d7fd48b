/- What the document's own Closing returns: a mark, as few noughts as fit, and the length in bits. -/
import Derived.Test.YtjbjkddgefiicaaDoorBd
import Derived.Lib.AppendZerosOnto
namespace Go.Proofs.YtjbjkddgefiicaaDoor
open Go.RowKit
set_option linter.unusedVariables false
set_option linter.unusedSimpArgs false
/-- How many noughts. -/
def nzOf (n : Nat) : Nat := (119 - n % 64) % 64
theorem nz_ok (n : Nat) : (n + 1 + nzOf n + 8) % 64 = 0 := by unfold nzOf; omega
theorem nz_least (n k : Nat) (h : k < nzOf n) : (n + 1 + k + 8) % 64 ≠ 0 := by unfold nzOf at h; omega
theorem nz_lt (n : Nat) : nzOf n < 64 := by unfold nzOf; omega
/-- The eight bytes of a number, of which the last k are laid. -/
def szK (x : Nat) (k : Nat) : List (BitVec 8) := (List.range 8).map fun j => if 8 ≤ j + k then BitVec.ofNat 8 (x / 256 ^ (7 - j)) else 0
def closeB (n : Nat) : List (BitVec 8) := 128 :: (List.replicate (nzOf n) 0 ++ szK (8 * n) 8)
theorem szK_len (x k : Nat) : (szK x k).length = 8 := by simp [szK]
theorem szK_step (x k : Nat) (hk : k < 8) : (szK x k).set (7 - k) (BitVec.ofNat 8 (x / 256 ^ k)) = szK x (k + 1) := by
  apply List.ext_getElem
  · simp [szK]
  · intro i h1 h2
    have hi : i < 8 := by simpa [szK] using h2
    simp only [szK, List.getElem_set, List.getElem_map, List.getElem_range]
    by_cases e : 7 - k = i
    · rw [if_pos e, if_pos (by omega), show 7 - i = k by omega]
    · rw [if_neg e]
      by_cases h : 8 ≤ i + k
      · rw [if_pos h, if_pos (by omega)]
      · rw [if_neg h, if_neg (by omega)]
theorem makes8 (w : World) : (Instr.makeSlice 22 (.int .i64 8) (.int .i64 8)).run Tryd.prog w = .ok (.slice (some ⟨w.heap.size, 0, none⟩) 8 8) (w.alloc (.cells (vbs (szK 0 0)).toArray 5)) := by
  kernel_rfl

theorem int3 : Tryd.prog.underlying 3 = some (.int .i64) := Tryd.underlying3
theorem nsc (k : Nat) (hk : k < 64) : Builtin.nextslicecap (1 + k) 1 * 1 ≤ 281474976710656 := by
  have h : ∀ q : Fin 64, Builtin.nextslicecap (1 + q.val) 1 * 1 ≤ 281474976710656 := by decide +kernel
  exact h ⟨k, hk⟩
theorem run_zeros (w0 : World) (k : Nat) (hk : k < 64) : ∃ v' w', (Builtin.append_ #[22, 3] 22 #[.slice (some ⟨w0.heap.size, 0, none⟩) 1 1, .int .i64 k]).run Tryd.prog (w0.alloc (.cells #[.int .u8 128] 5)) = .ok v' w' ∧ OB w' w0.heap.size v' (128 :: List.replicate k 0) ∧ Below w0.heap.size w0 w' := by
  have hb1 : Below w0.heap.size w0 (w0.alloc (.cells #[.int .u8 128] 5)) := (Below.refl _ _).alloc (Nat.le_refl _) _
  by_cases h0 : k = 0
  · subst h0
    refine ⟨.slice (some ⟨w0.heap.size, 0, none⟩) 1 1, w0.alloc (.cells #[.int .u8 128] 5), by kernel_rfl, ?_, hb1⟩
    exact ⟨rfl, .inr ⟨w0.heap.size, 1, _, rfl, Nat.le_refl _, heap_alloc_new w0 _, Nat.le_refl _, by unfold maxLen; omega, rfl, rfl⟩⟩
  · obtain ⟨i0, hi, hz0, hz1, hz2⟩ := info_parts info5
    have hold : (Builtin.firstCells i0.size 1 (.slice (some ⟨w0.heap.size, 0, none⟩) 1 1)).run Tryd.prog (w0.alloc (.cells #[.int .u8 128] 5)).drew = .ok [Value.int .u8 128].toArray (w0.alloc (.cells #[.int .u8 128] 5)).drew :=
      run_firstCells_some (P := Tryd.prog) _ i0.size 1 ⟨w0.heap.size, 0, none⟩ 1 1 [.int .u8 128] (by rw [hz1]; rfl) (fun j u hj => by
        have : j = 0 := by have := (List.getElem?_eq_some_iff.1 hj).1; simp at this; omega
        subst this
        rw [Addr.add_mid]
        show (w0.alloc (.cells #[.int .u8 128] 5)).cell? _ = _
        rw [← hj]; exact cell_new rfl rfl)
    have hr := Lib.run_append_grow_zeros (P := Tryd.prog) (w0.alloc (.cells #[.int .u8 128] 5)) 22 3 22 5 i0 (.int .u8 0) .i64 .i64 Tryd.underlying22 int3 hi hz0 (some ⟨w0.heap.size, 0, none⟩) 1 1 [.int .u8 128] hold k (by omega) (by rw [hz1]; omega) (by omega) (by omega) (by rw [hz2]; omega) (by rw [hz2]; exact nsc k hk)
    refine ⟨_, _, hr, ?_, (hb1.drew).alloc (by simp) _⟩
    have hge := grownCap_ge (w0.alloc (.cells #[.int .u8 128] 5)) (1 + k) 1 5
    have hcm := grownCap_le_maxLen (w0.alloc (.cells #[.int .u8 128] 5)) (1 + k) 1 5 (by unfold maxLen; omega)
    generalize grownCap (w0.alloc (.cells #[.int .u8 128] 5)) (1 + k) 1 5 = G at hge hcm ⊢
    have hl : (128 :: List.replicate k (0 : BitVec 8)).length = 1 + k := by simp; omega
    unfold OB
    rw [hl]
    refine ⟨by rw [vbs_len, hl, Nat.mul_one], .inr ⟨(w0.alloc (.cells #[.int .u8 128] 5)).heap.size, G, _, rfl, by simp, heap_alloc_new (w0.alloc (.cells #[.int .u8 128] 5)).drew _, hge, hcm, ?_, ?_⟩⟩
    · simp [size_zeroCells, Value.cells]; omega
    · have e : ∀ m, (Builtin.zeroCells (Value.cells (.int .u8 0)) m).toList = List.replicate m (Value.int .u8 0) := fun m => by
        apply List.ext_getElem
        · simp [Builtin.zeroCells, Value.cells]
        · intro i h1 h2; simp [Builtin.zeroCells, Value.cells, Nat.mod_one]
      rw [Array.toList_append, Array.toList_append, e, e, List.toList_toArray, Nat.mul_one]
      have hv : vbs (128 :: List.replicate k (0 : BitVec 8)) = [Value.int .u8 128] ++ List.replicate k (Value.int .u8 0) := by
        simp [vbs]; exact ⟨rfl, Or.inr rfl⟩
      rw [hv]
      have : 1 + k = ([Value.int .u8 128] ++ List.replicate k (Value.int .u8 0)).length := by simp; omega
      rw [this]; exact List.take_left

theorem wpList_zeros {w0 : World} {ops : Array Oper} {rest : List Oper} {o : Oper} {a : Act} {Q : Exit → Act → World → Prop} (hgd : o.guard = none) (s x : Operand) (ho : o.op = .call { callee := .builtin .append, args := #[s, x], argTypes := #[22, 3] }) (hty : o.type = 22)
    (k : Nat) (hk : k < 64) (hs : a.eval s = .slice (some ⟨w0.heap.size, 0, none⟩) 1 1) (hx : a.eval x = .int .i64 k)
    (h : ∀ v' w', OB w' w0.heap.size v' (128 :: List.replicate k 0) → Below w0.heap.size w0 w' → wpList Tryd.prog ops Q rest (a.put o.dst v') w') : wpList Tryd.prog ops Q (o :: rest) a (w0.alloc (.cells #[.int .u8 128] 5)) := by
  refine wpList_plain hgd fun K hK => ?_
  obtain ⟨v', w', hr, h2, h3⟩ := run_zeros w0 k hk
  unfold Oper.wp execOp
  simp only [ho, resolve, invoke, builtin, Sem.run_bind, Sem.run_pure, Result.andThen_ok, List.map_toArray, List.map_cons, List.map_nil, hs, hx]
  rw [hty]
  simp only [hr]
  exact hK _ _ (h v' w' h2 h3)
theorem mono_own {w : World} {B B' : Nat} {v : Value} {L : List (BitVec 8)} (h : OB w B v L) (hb : B' ≤ B) : OB w B' v L :=
  ⟨h.1, h.2.imp id fun ⟨g, cap, cur, h1, h2, h3⟩ => ⟨g, cap, cur, h1, Nat.le_trans hb h2, h3⟩⟩
structure CZ (w : World) (x k : Nat) (wq : World) : Prop where
  bel : Below w.heap.size w wq
  sz : Blk wq w.heap.size 5 (vbs (szK x k))
set_option maxRecDepth 100000 in
set_option maxHeartbeats 2000000 in
theorem closing_any (n : Nat) (hn : n < 1152921504606846976) (w : World) :
    Calls Tryd.prog 25 #[.int .i64 n] w fun e w' => ∃ v, e = .returned v ∧ OB w' w.heap.size v (closeB n) ∧ Below w.heap.size w w' := by
  have hm := makes8 w
  have h0 : CZ w (8 * n) 0 (w.alloc (.cells (vbs (szK 0 0)).toArray 5)) := ⟨(Below.refl _ _).alloc (Nat.le_refl _) _, by
    have := Blk.new w 5 (vbs (szK 0 0)).toArray
    rw [List.toList_toArray] at this
    have e : szK (8 * n) 0 = szK 0 0 := rfl
    rw [e]; exact this⟩
  have H0 := Lib.hid h0
  have n1 : IntKind.u64.wrap (n : Int) = (n : Int) := by rw [IntKind.wrap_u64]; omega
  have n2 : IntKind.u64.wrap ((n : Int) * 8) = ((8 * n : Nat) : Int) := by rw [IntKind.wrap_u64]; omega
  clear h0
  go_enter Tryd.func25, Tryd.ntmps25
  go_upto_region 4 with fail
  generalize w.alloc (.cells (vbs (szK 0 0)).toArray 5) = w3 at H0 ⊢
  clear hm n1 n2
  go_wp2_with fail
  go_loopw [4, 5] (fun x i wq => ∃ k : Nat, k ≤ 8 ∧ i = .int .i64 (7 - (k : Int)) ∧ x = .int .u64 ((8 * n / 256 ^ k : Nat) : Int) ∧ CZ w (8 * n) k wq) (fun _ i _ => (intOf i + 1).toNat)
  case atStart => exact ⟨0, Nat.zero_le _, rfl, by simp, H0.out⟩
  case round =>
    obtain ⟨k, hk, rfl, rfl, hX⟩ := hrel
    have HX := Lib.hid hX
    clear H0
    by_cases hlt : k < 8
    · have k1 : (0 : Int) ≤ 7 - (k : Int) := by omega
      have k2 : 7 - (k : Int) < 8 := by omega
      have k3 : (7 - (k : Int)).toNat = 7 - k := by omega
      have c0 := hX.sz.cell (vbs_at (l := szK (8 * n) k) (j := 7 - k) (by rw [szK_len]; omega))
      have f0 := hX.sz.free (7 - k)
      have k4 : IntKind.i64.wrap (7 - (k : Int) - 1) = 7 - ((k + 1 : Nat) : Int) := by rw [IntWalk.i64_in _ (by omega)]; omega
      obtain ⟨q, hq⟩ : ∃ q, q = 8 * n / 256 ^ k := ⟨_, rfl⟩
      have hqb : q < 18446744073709551616 := by rw [hq]; exact Nat.lt_of_le_of_lt (Nat.div_le_self _ _) (by omega)
      have hq1 : 8 * n / 256 ^ (k + 1) = q / 256 := by rw [hq, Nat.pow_succ, Nat.div_div_eq_div_mul]
      have HQ := Lib.hid hq
      have HQ1 := Lib.hid hq1
      rw [← hq]
      clear hq hq1 hX
      have q1 : IntKind.u8.wrap (IntKind.u64.wrap ((q : Int).tmod 256)) = Bt (BitVec.ofNat 8 q) := by
        rw [Int.tmod_eq_emod_of_nonneg (Int.natCast_nonneg _), IntKind.wrap_u64, IntKind.wrap_u8']
        unfold Bt
        rw [BitVec.toNat_ofNat]
        omega
      have q1' : IntKind.u8.wrap ((q : Int).tmod 256) = Bt (BitVec.ofNat 8 q) := by
        rw [Int.tmod_eq_emod_of_nonneg (Int.natCast_nonneg _), IntKind.wrap_u8']
        unfold Bt
        rw [BitVec.toNat_ofNat]
        omega
      have q2 : IntKind.u64.wrap ((q : Int).tdiv 256) = ((q / 256 : Nat) : Int) := by
        rw [Int.tdiv_eq_ediv_of_nonneg (Int.natCast_nonneg _), IntKind.wrap_u64]
        omega
      go_wp2_with fail
      go_roundw
      case rel =>
        refine ⟨k + 1, by omega, by congr 1, by rw [HQ1.out]; simp, HX.out.bel.setCell (Nat.le_refl _) _, ?_⟩
        have h1 := HX.out.sz.set (7 - k) (.int .u8 (Bt (BitVec.ofNat 8 q)))
        rw [vbs_set, HQ.out, szK_step (8 * n) k hlt] at h1
        have e : (q : Int) % 256 = Bt (BitVec.ofNat 8 (8 * n / 256 ^ k)) := by
          rw [← HQ.out]; unfold Bt; rw [BitVec.toNat_ofNat]; omega
        rw [e]; exact h1
      case measure => simp [intOf]; omega
    · obtain rfl : k = 8 := by omega
      go_wp2_with fail
      clear hX
      go_loopw [6] (fun i wq => ∃ k : Nat, k ≤ nzOf n ∧ i = .int .i64 k ∧ CZ w (8 * n) 8 wq) (fun i _ => nzOf n - (intOf i).toNat)
      case atStart => exact ⟨0, Nat.zero_le _, rfl, HX.out⟩
      case round =>
        obtain ⟨k, hk, rfl, hX⟩ := hrel
        clear HX
        have HX := Lib.hid hX
        clear hX
        have hk64 : k < 64 := Nat.lt_of_le_of_lt hk (nz_lt n)
        have e1 : IntKind.i64.wrap ((n : Int) + 1) = (n : Int) + 1 := IntWalk.i64_in _ (by omega)
        have e2 : IntKind.i64.wrap ((n : Int) + 1 + (k : Int)) = (n : Int) + 1 + (k : Int) := IntWalk.i64_in _ (by omega)
        have e3 : IntKind.i64.wrap ((n : Int) + 1 + (k : Int) + 8) = (n : Int) + 1 + (k : Int) + 8 := IntWalk.i64_in _ (by omega)
        have e4 : ((n : Int) + 1 + (k : Int) + 8).tmod 64 = (((n + 1 + k + 8) % 64 : Nat) : Int) := by rw [Int.tmod_eq_emod_of_nonneg (by omega)]; omega
        have e5 : IntKind.i64.wrap (((n + 1 + k + 8) % 64 : Nat) : Int) = (((n + 1 + k + 8) % 64 : Nat) : Int) := IntWalk.i64_in _ (by omega)
        obtain ⟨r, hr⟩ : ∃ r, r = (n + 1 + k + 8) % 64 := ⟨_, rfl⟩
        have HR := Lib.hid hr
        rw [← hr] at e4 e5
        clear hr
        by_cases hlt : k < nzOf n
        · have hne : r ≠ 0 := by rw [HR.out]; exact nz_least n k hlt
          have b1 : ((r : Int) == 0) = false := by simp; omega
          have b2 : (r : Int) ≠ 0 := by omega
          go_wp2_with fail
          go_roundw
          case rel => exact ⟨k + 1, by omega, by simp, HX.out⟩
          case measure => simp [intOf]; omega
        · obtain rfl : k = nzOf n := by omega
          have hz : r = 0 := by rw [HR.out]; exact nz_ok n
          have b1 : ((r : Int) == 0) = true := by simp; omega
          have HL : Hid (wr.heap.size ≥ w.heap.size + 1) := HX.out.sz.lt
          subst hz
          go_upto_region 12 with (refine wpList_zeros (o := ⟨some 35, _, _, _, _, _⟩) rfl (.tmp 33) (.tmp 34) rfl rfl (nzOf n) hk64 rfl rfl ?_; intro v1 w1 ho1 hb1)
          have hszB : Blk w1 w.heap.size 5 (vbs (szK (8 * n) 8)) := HX.out.sz.below hb1 HX.out.sz.lt
          have hbel : Below w.heap.size w w1 := HX.out.bel.trans (hb1.mono HX.out.bel.size)
          have HO := Lib.hid ho1
          have hs1 := Lib.hid (src_of_blk hszB)
          have HB1 := Lib.hid hbel
          have HBs := Lib.hid hb1.size
          have hBB := Lib.hid HX.out.bel.size
          have l8 : Hid (8 = (szK (8 * n) 8).length) := (szK_len _ _).symm
          have lb : Hid ((128 :: List.replicate (nzOf n) (0 : BitVec 8)).length + (szK (8 * n) 8).length ≤ 140737488355328) := by
            show (128 :: List.replicate (nzOf n) (0 : BitVec 8)).length + (szK (8 * n) 8).length ≤ _
            rw [szK_len]; simp; omega
          clear ho1 hszB hb1 hbel
          go_wp2_with (refine wpList_push (o := ⟨some 38, _, _, _, _, _⟩) rfl (.tmp 36) (.tmp 37) rfl rfl wr.heap.size v1 (128 :: List.replicate (nzOf n) 0) (szK (8 * n) 8) rfl HO.out (some ⟨w.heap.size, 0, none⟩) 8 8 rfl l8.out hs1.out (fun h => by cases h) lb.out HB1.out HBs.out hBB.out ?_; intro v2 w2 h1 h2 h3)
          go_ret
          exact ⟨_, rfl, mono_own h1 hBB.out, h2⟩
end Go.Proofs.YtjbjkddgefiicaaDoor
