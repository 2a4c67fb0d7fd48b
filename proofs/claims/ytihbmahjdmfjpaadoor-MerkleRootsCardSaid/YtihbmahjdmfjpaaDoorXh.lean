/- What the document's own Closing, RoundNumbers, First, Sum and Twice return. -/
import Derived.Test.YtihbmahjdmfjpaaDoorXg
import Derived.Lib.AppendZerosOnto
namespace Go.Proofs.YtihbmahjdmfjpaaDoor
set_option maxRecDepth 100000
open Go.RowKit
set_option linter.unusedVariables false
set_option linter.unusedSimpArgs false
/-- How many noughts. -/
def nzOf (n : Nat) : Nat := (119 - n % 64) % 64
theorem nz_ok (n : Nat) : (n + 1 + nzOf n + 8) % 64 = 0 := by unfold nzOf; omega
theorem nz_least (n k : Nat) (h : k < nzOf n) : (n + 1 + k + 8) % 64 ≠ 0 := by unfold nzOf at h; omega
theorem nz_lt (n : Nat) : nzOf n < 64 := by unfold nzOf; omega
/-- The eight bytes of a number, of which the last k are laid. -/
def szK (x : Nat) (k : Nat) : List (BitVec 8) := (List.range 8).map fun j => if 8 ≤ j + k then BitVec.ofNat 8 (x / 256 ^ (7 - j)) else 0
def closeB (n : Nat) : List (BitVec 8) := 128 :: (List.replicate (nzOf n) 0 ++ szK (8 * n) 8)
theorem szK_len (x k : Nat) : (szK x k).length = 8 := by simp [szK]
theorem szK_step (x k : Nat) (hk : k < 8) : (szK x k).set (7 - k) (BitVec.ofNat 8 (x / 256 ^ k)) = szK x (k + 1) := by
  apply List.ext_getElem
  · simp [szK]
  · intro i h1 h2
    have hi : i < 8 := by simpa [szK] using h2
    simp only [szK, List.getElem_set, List.getElem_map, List.getElem_range]
    by_cases e : 7 - k = i
    · rw [if_pos e, if_pos (by omega), show 7 - i = k by omega]
    · rw [if_neg e]
      by_cases h : 8 ≤ i + k
      · rw [if_pos h, if_pos (by omega)]
      · rw [if_neg h, if_neg (by omega)]
theorem makes8 (w : World) : (Instr.makeSlice 54 (.int .i64 8) (.int .i64 8)).run Tryd.prog w = .ok (.slice (some ⟨w.heap.size, 0, none⟩) 8 8) (w.alloc (.cells (vbs (szK 0 0)).toArray 5)) := by
  kernel_rfl

theorem int30 : Tryd.prog.underlying 3 = some (.int .i64) := Tryd.underlying3
theorem nsc (k : Nat) (hk : k < 64) : Builtin.nextslicecap (1 + k) 1 * 1 ≤ 281474976710656 := by
  have h : ∀ q : Fin 64, Builtin.nextslicecap (1 + q.val) 1 * 1 ≤ 281474976710656 := by decide +kernel
  exact h ⟨k, hk⟩
theorem run_zeros (w0 : World) (k : Nat) (hk : k < 64) : ∃ v' w', (Builtin.append_ #[54, 3] 54 #[.slice (some ⟨w0.heap.size, 0, none⟩) 1 1, .int .i64 k]).run Tryd.prog (w0.alloc (.cells #[.int .u8 128] 5)) = .ok v' w' ∧ OB w' w0.heap.size v' (128 :: List.replicate k 0) ∧ Below w0.heap.size w0 w' := by
  have hb1 : Below w0.heap.size w0 (w0.alloc (.cells #[.int .u8 128] 5)) := (Below.refl _ _).alloc (Nat.le_refl _) _
  by_cases h0 : k = 0
  · subst h0
    refine ⟨.slice (some ⟨w0.heap.size, 0, none⟩) 1 1, w0.alloc (.cells #[.int .u8 128] 5), by kernel_rfl, ?_, hb1⟩
    exact ⟨rfl, .inr ⟨w0.heap.size, 1, _, rfl, Nat.le_refl _, heap_alloc_new w0 _, Nat.le_refl _, by unfold maxLen; omega, rfl, rfl⟩⟩
  · obtain ⟨i0, hi, hz0, hz1, hz2⟩ := info_parts info5
    have hold : (Builtin.firstCells i0.size 1 (.slice (some ⟨w0.heap.size, 0, none⟩) 1 1)).run Tryd.prog (w0.alloc (.cells #[.int .u8 128] 5)).drew = .ok [Value.int .u8 128].toArray (w0.alloc (.cells #[.int .u8 128] 5)).drew :=
      run_firstCells_some (P := Tryd.prog) _ i0.size 1 ⟨w0.heap.size, 0, none⟩ 1 1 [.int .u8 128] (by rw [hz1]; rfl) (fun j u hj => by
        have : j = 0 := by have := (List.getElem?_eq_some_iff.1 hj).1; simp at this; omega
        subst this
        rw [Addr.add_mid]
        show (w0.alloc (.cells #[.int .u8 128] 5)).cell? _ = _
        rw [← hj]; exact cell_new rfl rfl)
    have hr := Lib.run_append_grow_zeros (P := Tryd.prog) (w0.alloc (.cells #[.int .u8 128] 5)) 54 3 54 5 i0 (.int .u8 0) .i64 .i64 Tryd.underlying54 int30 hi hz0 (some ⟨w0.heap.size, 0, none⟩) 1 1 [.int .u8 128] hold k (by omega) (by rw [hz1]; omega) (by omega) (by omega) (by rw [hz2]; omega) (by rw [hz2]; exact nsc k hk)
    refine ⟨_, _, hr, ?_, (hb1.drew).alloc (by simp) _⟩
    have hge := grownCap_ge (w0.alloc (.cells #[.int .u8 128] 5)) (1 + k) 1 5
    have hcm := grownCap_le_maxLen (w0.alloc (.cells #[.int .u8 128] 5)) (1 + k) 1 5 (by unfold maxLen; omega)
    generalize grownCap (w0.alloc (.cells #[.int .u8 128] 5)) (1 + k) 1 5 = G at hge hcm ⊢
    have hl : (128 :: List.replicate k (0 : BitVec 8)).length = 1 + k := by simp; omega
    unfold OB
    rw [hl]
    refine ⟨by rw [vbs_len, hl, Nat.mul_one], .inr ⟨(w0.alloc (.cells #[.int .u8 128] 5)).heap.size, G, _, rfl, by simp, heap_alloc_new (w0.alloc (.cells #[.int .u8 128] 5)).drew _, hge, hcm, ?_, ?_⟩⟩
    · simp [size_zeroCells, Value.cells]; omega
    · have e : ∀ m, (Builtin.zeroCells (Value.cells (.int .u8 0)) m).toList = List.replicate m (Value.int .u8 0) := fun m => by
        apply List.ext_getElem
        · simp [Builtin.zeroCells, Value.cells]
        · intro i h1 h2; simp [Builtin.zeroCells, Value.cells, Nat.mod_one]
      rw [Array.toList_append, Array.toList_append, e, e, List.toList_toArray, Nat.mul_one]
      have hv : vbs (128 :: List.replicate k (0 : BitVec 8)) = [Value.int .u8 128] ++ List.replicate k (Value.int .u8 0) := by
        simp [vbs]; exact ⟨rfl, Or.inr rfl⟩
      rw [hv]
      have : 1 + k = ([Value.int .u8 128] ++ List.replicate k (Value.int .u8 0)).length := by simp; omega
      rw [this]; exact List.take_left

theorem wpList_zeros {w0 : World} {ops : Array Oper} {rest : List Oper} {o : Oper} {a : Act} {Q : Exit → Act → World → Prop} (hgd : o.guard = none) (s x : Operand) (ho : o.op = .call { callee := .builtin .append, args := #[s, x], argTypes := #[54, 3] }) (hty : o.type = 54)
    (k : Nat) (hk : k < 64) (hs : a.eval s = .slice (some ⟨w0.heap.size, 0, none⟩) 1 1) (hx : a.eval x = .int .i64 k)
    (h : ∀ v' w', OB w' w0.heap.size v' (128 :: List.replicate k 0) → Below w0.heap.size w0 w' → wpList Tryd.prog ops Q rest (a.put o.dst v') w') : wpList Tryd.prog ops Q (o :: rest) a (w0.alloc (.cells #[.int .u8 128] 5)) := by
  refine wpList_plain hgd fun K hK => ?_
  obtain ⟨v', w', hr, h2, h3⟩ := run_zeros w0 k hk
  unfold Oper.wp execOp
  simp only [ho, resolve, invoke, builtin, Sem.run_bind, Sem.run_pure, Result.andThen_ok, List.map_toArray, List.map_cons, List.map_nil, hs, hx]
  rw [hty]
  simp only [hr]
  exact hK _ _ (h v' w' h2 h3)
theorem mono_own {w : World} {B B' : Nat} {v : Value} {L : List (BitVec 8)} (h : OB w B v L) (hb : B' ≤ B) : OB w B' v L :=
  ⟨h.1, h.2.imp id fun ⟨g, cap, cur, h1, h2, h3⟩ => ⟨g, cap, cur, h1, Nat.le_trans hb h2, h3⟩⟩
structure CZ (w : World) (x k : Nat) (wq : World) : Prop where
  bel : Below w.heap.size w wq
  sz : Blk wq w.heap.size 5 (vbs (szK x k))
set_option maxRecDepth 100000 in
set_option maxHeartbeats 2000000 in
theorem closing_any (n : Nat) (hn : n < 1152921504606846976) (w : World) :
    Calls Tryd.prog 58 #[.int .i64 n] w fun e w' => ∃ v, e = .returned v ∧ OB w' w.heap.size v (closeB n) ∧ Below w.heap.size w w' := by
  have hm := makes8 w
  have h0 : CZ w (8 * n) 0 (w.alloc (.cells (vbs (szK 0 0)).toArray 5)) := ⟨(Below.refl _ _).alloc (Nat.le_refl _) _, by
    have := Blk.new w 5 (vbs (szK 0 0)).toArray
    rw [List.toList_toArray] at this
    have e : szK (8 * n) 0 = szK 0 0 := rfl
    rw [e]; exact this⟩
  have H0 := Lib.hid h0
  have n1 : IntKind.u64.wrap (n : Int) = (n : Int) := by rw [IntKind.wrap_u64]; omega
  have n2 : IntKind.u64.wrap ((n : Int) * 8) = ((8 * n : Nat) : Int) := by rw [IntKind.wrap_u64]; omega
  clear h0
  go_enter Tryd.func58, Tryd.ntmps58
  go_upto_region 4 with fail
  generalize w.alloc (.cells (vbs (szK 0 0)).toArray 5) = w3 at H0 ⊢
  clear hm n1 n2
  go_wp2_with fail
  go_loopw [4, 5] (fun x i wq => ∃ k : Nat, k ≤ 8 ∧ i = .int .i64 (7 - (k : Int)) ∧ x = .int .u64 ((8 * n / 256 ^ k : Nat) : Int) ∧ CZ w (8 * n) k wq) (fun _ i _ => (intOf i + 1).toNat)
  case atStart => exact ⟨0, Nat.zero_le _, rfl, by simp, H0.out⟩
  case round =>
    obtain ⟨k, hk, rfl, rfl, hX⟩ := hrel
    have HX := Lib.hid hX
    clear H0
    by_cases hlt : k < 8
    · have k1 : (0 : Int) ≤ 7 - (k : Int) := by omega
      have k2 : 7 - (k : Int) < 8 := by omega
      have k3 : (7 - (k : Int)).toNat = 7 - k := by omega
      have c0 := hX.sz.cell (vbs_at (l := szK (8 * n) k) (j := 7 - k) (by rw [szK_len]; omega))
      have f0 := hX.sz.free (7 - k)
      have k4 : IntKind.i64.wrap (7 - (k : Int) - 1) = 7 - ((k + 1 : Nat) : Int) := by rw [IntWalk.i64_in _ (by omega)]; omega
      obtain ⟨q, hq⟩ : ∃ q, q = 8 * n / 256 ^ k := ⟨_, rfl⟩
      have hqb : q < 18446744073709551616 := by rw [hq]; exact Nat.lt_of_le_of_lt (Nat.div_le_self _ _) (by omega)
      have hq1 : 8 * n / 256 ^ (k + 1) = q / 256 := by rw [hq, Nat.pow_succ, Nat.div_div_eq_div_mul]
      have HQ := Lib.hid hq
      have HQ1 := Lib.hid hq1
      rw [← hq]
      clear hq hq1 hX
      have q1 : IntKind.u8.wrap (IntKind.u64.wrap ((q : Int).tmod 256)) = Bt (BitVec.ofNat 8 q) := by
        rw [Int.tmod_eq_emod_of_nonneg (Int.natCast_nonneg _), IntKind.wrap_u64, IntKind.wrap_u8']
        unfold Bt
        rw [BitVec.toNat_ofNat]
        omega
      have q1' : IntKind.u8.wrap ((q : Int).tmod 256) = Bt (BitVec.ofNat 8 q) := by
        rw [Int.tmod_eq_emod_of_nonneg (Int.natCast_nonneg _), IntKind.wrap_u8']
        unfold Bt
        rw [BitVec.toNat_ofNat]
        omega
      have q2 : IntKind.u64.wrap ((q : Int).tdiv 256) = ((q / 256 : Nat) : Int) := by
        rw [Int.tdiv_eq_ediv_of_nonneg (Int.natCast_nonneg _), IntKind.wrap_u64]
        omega
      go_wp2_with fail
      go_roundw
      case rel =>
        refine ⟨k + 1, by omega, by congr 1, by rw [HQ1.out]; simp, HX.out.bel.setCell (Nat.le_refl _) _, ?_⟩
        have h1 := HX.out.sz.set (7 - k) (.int .u8 (Bt (BitVec.ofNat 8 q)))
        rw [vbs_set, HQ.out, szK_step (8 * n) k hlt] at h1
        have e : (q : Int) % 256 = Bt (BitVec.ofNat 8 (8 * n / 256 ^ k)) := by
          rw [← HQ.out]; unfold Bt; rw [BitVec.toNat_ofNat]; omega
        rw [e]; exact h1
      case measure => simp [intOf]; omega
    · obtain rfl : k = 8 := by omega
      go_wp2_with fail
      clear hX
      go_loopw [6] (fun i wq => ∃ k : Nat, k ≤ nzOf n ∧ i = .int .i64 k ∧ CZ w (8 * n) 8 wq) (fun i _ => nzOf n - (intOf i).toNat)
      case atStart => exact ⟨0, Nat.zero_le _, rfl, HX.out⟩
      case round =>
        obtain ⟨k, hk, rfl, hX⟩ := hrel
        clear HX
        have HX := Lib.hid hX
        clear hX
        have hk64 : k < 64 := Nat.lt_of_le_of_lt hk (nz_lt n)
        have e1 : IntKind.i64.wrap ((n : Int) + 1) = (n : Int) + 1 := IntWalk.i64_in _ (by omega)
        have e2 : IntKind.i64.wrap ((n : Int) + 1 + (k : Int)) = (n : Int) + 1 + (k : Int) := IntWalk.i64_in _ (by omega)
        have e3 : IntKind.i64.wrap ((n : Int) + 1 + (k : Int) + 8) = (n : Int) + 1 + (k : Int) + 8 := IntWalk.i64_in _ (by omega)
        have e4 : ((n : Int) + 1 + (k : Int) + 8).tmod 64 = (((n + 1 + k + 8) % 64 : Nat) : Int) := by rw [Int.tmod_eq_emod_of_nonneg (by omega)]; omega
        have e5 : IntKind.i64.wrap (((n + 1 + k + 8) % 64 : Nat) : Int) = (((n + 1 + k + 8) % 64 : Nat) : Int) := IntWalk.i64_in _ (by omega)
        obtain ⟨r, hr⟩ : ∃ r, r = (n + 1 + k + 8) % 64 := ⟨_, rfl⟩
        have HR := Lib.hid hr
        rw [← hr] at e4 e5
        clear hr
        by_cases hlt : k < nzOf n
        · have hne : r ≠ 0 := by rw [HR.out]; exact nz_least n k hlt
          have b1 : ((r : Int) == 0) = false := by simp; omega
          have b2 : (r : Int) ≠ 0 := by omega
          go_wp2_with fail
          go_roundw
          case rel => exact ⟨k + 1, by omega, by simp, HX.out⟩
          case measure => simp [intOf]; omega
        · obtain rfl : k = nzOf n := by omega
          have hz : r = 0 := by rw [HR.out]; exact nz_ok n
          have b1 : ((r : Int) == 0) = true := by simp; omega
          have HL : Hid (wr.heap.size ≥ w.heap.size + 1) := HX.out.sz.lt
          subst hz
          go_upto_region 12 with (refine wpList_zeros (o := ⟨some 35, _, _, _, _, _⟩) rfl (.tmp 33) (.tmp 34) rfl rfl (nzOf n) hk64 rfl rfl ?_; intro v1 w1 ho1 hb1)
          have hszB : Blk w1 w.heap.size 5 (vbs (szK (8 * n) 8)) := HX.out.sz.below hb1 HX.out.sz.lt
          have hbel : Below w.heap.size w w1 := HX.out.bel.trans (hb1.mono HX.out.bel.size)
          have HO := Lib.hid ho1
          have hs1 := Lib.hid (src_of_blk hszB)
          have HB1 := Lib.hid hbel
          have HBs := Lib.hid hb1.size
          have hBB := Lib.hid HX.out.bel.size
          have l8 : Hid (8 = (szK (8 * n) 8).length) := (szK_len _ _).symm
          have lb : Hid ((128 :: List.replicate (nzOf n) (0 : BitVec 8)).length + (szK (8 * n) 8).length ≤ 140737488355328) := by
            show (128 :: List.replicate (nzOf n) (0 : BitVec 8)).length + (szK (8 * n) 8).length ≤ _
            rw [szK_len]; simp; omega
          clear ho1 hszB hb1 hbel
          go_wp2_with (refine wpList_push (o := ⟨some 38, _, _, _, _, _⟩) rfl (.tmp 36) (.tmp 37) rfl rfl wr.heap.size v1 (128 :: List.replicate (nzOf n) 0) (szK (8 * n) 8) rfl HO.out (some ⟨w.heap.size, 0, none⟩) 8 8 rfl l8.out hs1.out (fun h => by cases h) lb.out HB1.out HBs.out hBB.out ?_; intro v2 w2 h1 h2 h3)
          go_ret
          exact ⟨_, rfl, mono_own h1 hBB.out, h2⟩
open Go.RowKit
set_option linter.unusedVariables false
set_option linter.unusedSimpArgs false
set_option maxRecDepth 100000 in
set_option maxHeartbeats 2000000 in
theorem rnums_any (w : World) : Calls Tryd.prog 59 #[] w fun e w' => e = .returned (.slice (some ⟨w.heap.size, 0, none⟩) 64 64) ∧ Blk w' w.heap.size 40 (vus KK) ∧ Below w.heap.size w w' := by
  go_enter Tryd.func59, Tryd.ntmps59
  go_wp2
  go_ret
  exact ⟨rfl, Blk.new w 40 (vus KK).toArray, (Below.refl _ _).alloc (Nat.le_refl _) _⟩
set_option maxRecDepth 100000 in
set_option maxHeartbeats 2000000 in
theorem shaFirst_any (w : World) : Calls Tryd.prog 60 #[] w fun e w' => e = .returned (.slice (some ⟨w.heap.size, 0, none⟩) 8 8) ∧ Blk w' w.heap.size 40 (vus (stl ini)) ∧ Below w.heap.size w w' := by
  go_enter Tryd.func60, Tryd.ntmps60
  go_wp2
  go_ret
  exact ⟨rfl, Blk.new w 40 (vus (stl ini)).toArray, (Below.refl _ _).alloc (Nat.le_refl _) _⟩
open Go.RowKit
set_option linter.unusedVariables false
set_option linter.unusedSimpArgs false
/-- The digest as the document's own Sum makes it: over all chunks of the text with its closing. -/
def sumR (R : List (BitVec 8)) : List (BitVec 8) := joinB (blocks change ini (R ++ closeB R.length) ((R ++ closeB R.length).length / 64))
theorem close_len (n : Nat) : (closeB n).length = 9 + nzOf n := by simp [closeB, szK]; omega
theorem all_len (R : List (BitVec 8)) : (R ++ closeB R.length).length = 64 * (R.length / 64 + manyOf (R.length % 64)) := by
  rw [List.length_append, close_len]
  unfold nzOf manyOf
  split <;> omega
/-- The state behind some chunks and then others is that behind all. -/
theorem blocks_add (ch : St → List (BitVec 8) → St) (S : St) (R : List (BitVec 8)) (p : Nat) (q : Nat) : blocks ch S R (p + q) = blocks ch (blocks ch S R p) (R.drop (64 * p)) q := by
  induction q with
  | zero => rfl
  | succ q ih =>
    show ch (blocks ch S R (p + q)) ((R.drop (64 * (p + q))).take 64) = ch (blocks ch (blocks ch S R p) (R.drop (64 * p)) q) (((R.drop (64 * p)).drop (64 * q)).take 64)
    rw [ih, List.drop_drop, show 64 * p + 64 * q = 64 * (p + q) by omega]
theorem blocks_take (ch : St → List (BitVec 8) → St) (S : St) (R E : List (BitVec 8)) (p : Nat) (h : 64 * p ≤ R.length) : blocks ch S (R ++ E) p = blocks ch S R p := by
  induction p with
  | zero => rfl
  | succ p ih =>
    show ch (blocks ch S (R ++ E) p) (((R ++ E).drop (64 * p)).take 64) = ch (blocks ch S R p) ((R.drop (64 * p)).take 64)
    rw [ih (by omega), List.drop_append_of_le_length (by omega), List.take_append_of_le_length (by rw [List.length_drop]; omega)]
theorem blocks_pre (ch : St → List (BitVec 8) → St) (S : St) (A B : List (BitVec 8)) (p : Nat) (h : A.take (64 * p) = B.take (64 * p)) : blocks ch S A p = blocks ch S B p := by
  induction p with
  | zero => rfl
  | succ p ih =>
    have h1 : A.take (64 * p) = B.take (64 * p) := by
      have := congrArg (List.take (64 * p)) h
      rwa [List.take_take, List.take_take, Nat.min_eq_left (by omega)] at this
    have h2 : (A.drop (64 * p)).take 64 = (B.drop (64 * p)).take 64 := by
      have := congrArg (List.drop (64 * p)) h
      rwa [List.drop_take, List.drop_take, show 64 * (p + 1) - 64 * p = 64 by omega] at this
    show ch (blocks ch S A p) _ = ch (blocks ch S B p) _
    rw [ih h1, h2]
theorem padK_get (E : List (BitVec 8)) (last len k i : Nat) (hi : i < E.length) (hk : k ≤ last + 1) (hle : i ≤ last) (hl : last < E.length) : (padK E last len k)[i]? = if last < i + k then some (lenByte len (last - i)) else E[i]? := by
  induction k with
  | zero => rw [if_neg (by omega)]; rfl
  | succ k ih =>
    show ((padK E last len k).set (last - k) (lenByte len k))[i]? = _
    rw [List.getElem?_set]
    by_cases e : last - k = i
    · rw [if_pos e, if_pos (show last - k < (padK E last len k).length by rw [padK_len]; omega), if_pos (by omega), show last - i = k by omega]
    · rw [if_neg e, ih (by omega)]
      by_cases h : last < i + k
      · rw [if_pos h, if_pos (by omega)]
      · rw [if_neg h, if_neg (by omega)]
theorem padE_get (R : List (BitVec 8)) (i : Nat) (hR : R.length ≤ 63) (hi : i < 128) : (padE R)[i]? = some (if i < R.length then R.getD i 0 else if i = R.length then 128 else 0) := by
  unfold padE
  rw [List.getElem?_set]
  by_cases e : R.length = i
  · rw [if_pos e, if_pos (by simp; omega), if_neg (by omega), if_pos e.symm]
  · rw [if_neg e]
    by_cases h : i < R.length
    · rw [if_pos h, List.getElem?_append_left h]; simp [List.getD, h]
    · rw [if_neg h, if_neg (by omega), List.getElem?_append_right (by omega), List.getElem?_replicate, if_pos (by omega)]
/-- The padded end, byte by byte. -/
theorem padEnd_get (R : List (BitVec 8)) (len i : Nat) (hR : R.length ≤ 63) (hi : i < 64 * manyOf R.length) :
    (padEnd R len)[i]? = some (if i < R.length then R.getD i 0 else if i = R.length then 128 else if 64 * manyOf R.length - 8 ≤ i then lenByte len (64 * manyOf R.length - 1 - i) else 0) := by
  have hm : 1 ≤ manyOf R.length ∧ manyOf R.length ≤ 2 ∧ R.length + 9 ≤ 64 * manyOf R.length := by unfold manyOf; split <;> omega
  unfold padEnd
  rw [padK_get _ _ _ _ _ (by rw [padE_len R hR]; omega) (by omega) (by omega) (by rw [padE_len R hR]; omega), padE_get R i hR (by omega)]
  by_cases h : 64 * manyOf R.length - 1 < i + 8
  · rw [if_pos h, if_neg (by omega), if_neg (by omega), if_pos (by omega)]
  · rw [if_neg h, if_neg (show ¬ 64 * manyOf R.length - 8 ≤ i by omega)]
theorem close_get (n i : Nat) (hi : i < 9 + nzOf n) : (closeB n)[i]? = some (if i = 0 then 128 else if i ≤ nzOf n then 0 else BitVec.ofNat 8 (8 * n / 256 ^ (8 + nzOf n - i))) := by
  unfold closeB
  cases i with
  | zero => rfl
  | succ i =>
    rw [List.getElem?_cons_succ, if_neg (by omega)]
    by_cases h : i < nzOf n
    · rw [if_pos (by omega), List.getElem?_append_left (by simpa using h), List.getElem?_replicate, if_pos h]
    · rw [if_neg (by omega), List.getElem?_append_right (by simp; omega), List.length_replicate]
      have h8 : i - nzOf n < 8 := by omega
      simp only [szK, List.getElem?_map, List.getElem?_range h8, Option.map_some]
      rw [if_pos (by omega), show 7 - (i - nzOf n) = 8 + nzOf n - (i + 1) by omega]
theorem sumR_eq (R : List (BitVec 8)) (hl : R.length < 1152921504606846976) : sumR R = sumB R := by
  unfold sumR sumB finB fin
  rw [all_len R, Nat.mul_div_cancel_left _ (by omega : 0 < 64), blocks_add, blocks_take _ _ _ _ _ (by omega), List.drop_append_of_le_length (by omega), Nat.zero_add]
  congr 1
  apply blocks_pre
  have hr : (R.drop (64 * (R.length / 64))).length = R.length % 64 := by rw [List.length_drop]; omega
  obtain ⟨Q, hQ⟩ : ∃ Q, Q = R.drop (64 * (R.length / 64)) := ⟨_, rfl⟩
  rw [← hQ] at hr ⊢
  rw [← hr]
  have hm : Q.length + 9 + nzOf R.length = 64 * manyOf Q.length := by
    rw [hr]; unfold nzOf manyOf; split <;> omega
  have hq63 : Q.length ≤ 63 := by omega
  apply List.ext_getElem?
  intro i
  rw [List.getElem?_take, List.getElem?_take]
  by_cases hi : i < 64 * manyOf Q.length
  · rw [if_pos hi, if_pos hi, padEnd_get Q R.length i hq63 hi]
    by_cases h1 : i < Q.length
    · rw [if_pos h1, List.getElem?_append_left h1]; simp [List.getD, h1]
    · rw [if_neg h1, List.getElem?_append_right (by omega), close_get _ _ (by omega)]
      by_cases h2 : i = Q.length
      · rw [if_pos h2, if_pos (by omega)]
      · rw [if_neg h2, if_neg (by omega)]
        by_cases h3 : 64 * manyOf Q.length - 8 ≤ i
        · rw [if_pos h3, if_neg (by omega)]
          unfold lenByte
          rw [show (256 : Nat) = 2 ^ 8 from rfl, ← Nat.pow_mul, show 8 + nzOf R.length - (i - Q.length) = 64 * manyOf Q.length - 1 - i by omega]
        · rw [if_neg h3, if_pos (by omega)]
  · rw [if_neg hi, if_neg hi]
open Go.RowKit
set_option linter.unusedVariables false
set_option linter.unusedSimpArgs false
theorem wp_push {w : World} {o : Oper} {a : Act} {K : Act → World → Prop} {Q : Exit → Act → World → Prop} (s x : Operand) (ho : o.op = .call { callee := .builtin .append, args := #[s, x], argTypes := #[54, 54] }) (hty : o.type = 54)
    (B : Nat) (v : Value) (L M : List (BitVec 8)) (hs : a.eval s = v) (hown : OB w B v L) (A : Option Addr) (m c : Nat) (hx : a.eval x = .slice A m c) (hm : m = M.length) (hsr : Src22 w A M.length (vbs M)) (hc : A = none → c = 0) (hb : L.length + M.length ≤ 140737488355328) {w0 : World} {B' : Nat} (hbel : Below B' w0 w) (hB : B ≤ w.heap.size) (hBB : B' ≤ B)
    (h : ∀ v' w', OB w' B v' (L ++ M) → Below B' w0 w' → Below B w w' → K (a.put o.dst v') w') : o.wp Tryd.prog a w K Q := by
  subst hm
  exact wp_app s x ho hty B v L.length (vbs L) hs hown A M.length c (vbs M) hx hsr hc hb hB fun v' w' h2 h3 => by
    have hA := OB.app hown hbel hB hBB h2 h3
    exact h v' w' hA.1 hA.2 ((Below.refl B w).grown h3 hB (fun k hk => (World.ownsRow.lt hown k hk).1))
/-- What stays through the chunks. -/
structure shaSQ (w : World) (R : List (BitVec 8)) (A : Option Addr) (kb : Nat) (wq : World) : Prop where
  bel : Below w.heap.size w wq
  rd : Rd wq wq.heap.size A R
  k : Blk wq kb 40 (vus KK)
  r : Blk wq w.heap.size 25 (vbs Z32)
theorem shaSQ.below {w : World} {R : List (BitVec 8)} {A : Option Addr} {kb : Nat} {wq w' : World} (h : shaSQ w R A kb wq) (hb : Below wq.heap.size wq w') : shaSQ w R A kb w' :=
  ⟨h.bel.trans (hb.mono h.bel.size), rd_up (h.rd.keep hb) hb.size, h.k.below hb h.k.lt, h.r.below hb h.r.lt⟩
/-- The first k bytes of the digest. -/
def jb (S : St) (k : Nat) : List (BitVec 8) := (List.range 32).map fun j => if j < k then byteOf S j else 0
theorem jb_len (S : St) (k : Nat) : (jb S k).length = 32 := by simp [jb]
theorem jb_step (S : St) (k : Nat) (hk : k < 32) : (jb S k).set k (byteOf S k) = jb S (k + 1) := by
  apply List.ext_getElem
  · simp [jb]
  · intro i h1 h2
    simp only [jb, List.getElem_set, List.getElem_map, List.getElem_range]
    by_cases e : k = i
    · subst e; simp
    · simp only [e, if_false]
      by_cases h : i < k
      · rw [if_pos h, if_pos (by omega)]
      · rw [if_neg h, if_neg (by omega)]
theorem jb_end (S : St) : jb S 32 = joinB S := by
  unfold jb joinB
  apply List.map_congr_left
  intro j hj
  rw [if_pos (List.mem_range.1 hj)]
theorem jb_zero (S : St) : jb S 0 = Z32 := by
  apply List.ext_getElem
  · rw [jb_len, Z32_len]
  · intro i h1 h2
    have e : Z32[i] = 0 := by unfold Z32; exact List.getElem_replicate _
    rw [e]; simp [jb]
theorem stl_letter (S : St) (j : Nat) (h : j < 8) : (stl S).getD j 0 = letter S j := by
  have : j = 0 ∨ j = 1 ∨ j = 2 ∨ j = 3 ∨ j = 4 ∨ j = 5 ∨ j = 6 ∨ j = 7 := by omega
  rcases this with rfl | rfl | rfl | rfl | rfl | rfl | rfl | rfl <;> rfl
theorem U_div256 (x : BitVec 32) : IntKind.u32.wrap ((U x).tdiv 256) = U (x >>> 8) := by
  have h := x.isLt
  rw [IntKind.wrap_u32']
  unfold U
  rw [Int.tdiv_eq_ediv_of_nonneg (Int.natCast_nonneg _), BitVec.toNat_ushiftRight, Nat.shiftRight_eq_div_pow]
  omega
theorem U_byte (x : BitVec 32) : IntKind.u8.wrap ((U x).tmod 256) = Bt (x.setWidth 8) := by
  rw [IntKind.wrap_u8']
  unfold U Bt
  rw [Int.tmod_eq_emod_of_nonneg (Int.natCast_nonneg _), BitVec.toNat_setWidth]
  omega
theorem U_byte' (x : BitVec 32) : IntKind.u8.wrap (IntKind.u32.wrap ((U x).tmod 256)) = Bt (x.setWidth 8) := by
  rw [IntKind.wrap_u8', IntKind.wrap_u32']
  unfold U Bt
  rw [Int.tmod_eq_emod_of_nonneg (Int.natCast_nonneg _), BitVec.toNat_setWidth]
  omega
set_option maxRecDepth 100000 in
set_option maxHeartbeats 8000000 in
theorem rsum_any (A : Option Addr) (cap : Nat) (R : List (BitVec 8)) (w : World) (hR : Rd w w.heap.size A R) (hcap : R.length ≤ cap) (hA : A = none → cap = 0) (hl : R.length < 1000000000) :
    Calls Tryd.prog 50 #[.slice A R.length cap] w fun e w' => e = .returned (.agg (vbs (sumB R)).toArray) ∧ Below w.heap.size w w' := by
  rw [← sumR_eq R (by omega)]
  have hz : ∀ w, (zeroValue 25).run Tryd.prog w = .ok (.agg (vbs Z32).toArray) w := fun _ => by kernel_rfl
  have hb0 : Below w.heap.size w (w.alloc (Obj.cells (vbs Z32).toArray 25)) := (Below.refl _ _).alloc (Nat.le_refl _) _
  have hr0 := Blk.new w 25 (vbs Z32).toArray
  rw [List.toList_toArray] at hr0
  have HR0 := Lib.hid hr0
  have HB0 := Lib.hid hb0
  have HS0 := Lib.hid (src_of_rd (rd_up (hR.keep hb0) hb0.size))
  have HA := Lib.hid hA
  have HO0 := Lib.hid (OB.nil (w.alloc (Obj.cells (vbs Z32).toArray 25)) (w.heap.size + 1))
  have HBs := Lib.hid (show w.heap.size + 1 ≤ (w.alloc (Obj.cells (vbs Z32).toArray 25)).heap.size by simp)
  have HLen : Hid (([] : List (BitVec 8)).length + R.length ≤ 140737488355328) := by show ([] : List (BitVec 8)).length + R.length ≤ _; simp; omega
  clear hR hb0 hr0 hA
  go_enter Tryd.func50, Tryd.ntmps50
  go_upto_region 3 with (refine wpList_push (o := ⟨some 13, _, _, _, _, _⟩) rfl (.tmp 11) (.tmp 12) rfl rfl (w.heap.size + 1) _ [] R rfl HO0.out A R.length cap rfl rfl HS0.out HA.out HLen.out HB0.out HBs.out (Nat.le_succ _) ?_; intro v1 w1 ho1 hb1 hb1')
  have HR1 := Lib.hid (HR0.out.below hb1' (by omega))
  have HO1 := Lib.hid ho1
  have HB1 := Lib.hid hb1
  have HBs1 := Lib.hid (Nat.le_trans HBs.out hb1'.size)
  have HC := Lib.hid (closing_any R.length (by omega) w1)
  have HLen2 : Hid (([] ++ R).length + (closeB R.length).length ≤ 140737488355328) := by
    show ([] ++ R).length + (closeB R.length).length ≤ _
    have := nz_lt R.length
    rw [close_len, List.nil_append]; omega
  clear ho1 hb1 hb1' hz HR0 HB0 HS0 HO0 HLen HA
  go_upto_region 4 with (first | (go_at_call 58; (with_reducible refine HC.out.mono ?_); rintro e w2 ⟨v2, rfl, ho2, hb2⟩; dsimp only; obtain ⟨A2, cap2, rfl, hrd2, hl2, hm2, hn2⟩ := ho2.rd) | (refine wpList_push (o := ⟨some 18, _, _, _, _, _⟩) (w := w2) (v := v1) (L := [] ++ R) (M := closeB R.length) (B := w.heap.size + 1) (A := A2) (m := (closeB R.length).length) (c := cap2) (w0 := w) (B' := w.heap.size) rfl (.tmp 14) (.tmp 17) rfl rfl ?_ ?_ ?_ rfl ?_ ?_ ?_ ?_ ?_ ?_ ?_; (first | rfl | fail); (first | exact (OB.below (B' := 0) HO1.out hb2) | fail); (first | rfl | fail); (first | exact (src_of_rd hrd2) | fail); (first | exact hn2 | fail); (first | exact HLen2.out | fail); (first | exact (HB1.out.trans (hb2.mono HB1.out.size)) | fail); (first | exact (Nat.le_trans HBs1.out hb2.size) | fail); (first | exact (Nat.le_succ _) | fail); intro v3 w3 ho3 hb3 hb3'))
  have hr3 : Blk w3 w.heap.size 25 (vbs Z32) := (HR1.out.below hb2 HR1.out.lt).below hb3' (by omega)
  obtain ⟨ALL, hALL⟩ : ∃ ALL, ALL = R ++ closeB R.length := ⟨_, rfl⟩
  rw [List.nil_append, ← hALL] at ho3
  obtain ⟨A3, cap3, rfl, hrd3, hl3, hm3, hn3⟩ := ho3.rd
  have H3 := Lib.hid (⟨hr3, hb3, hrd3, hl3, hm3⟩ : Blk w3 w.heap.size 25 (vbs Z32) ∧ Below w.heap.size w w3 ∧ Rd w3 w3.heap.size A3 ALL ∧ ALL.length ≤ cap3 ∧ cap3 ≤ 9223372036854775807)
  have HALL := Lib.hid hALL
  clear hr3 hb3 hrd3 hl3 hm3 hn3 ho3 hb3' hALL hb2 ho2 hl2 hm2 hn2 hrd2 HC HO1 HB1 HBs1 HLen2 HR1
  go_upto_region 6 with (first | (go_at_call 59; (with_reducible refine (rnums_any _).mono ?_); rintro e w4 ⟨rfl, hk4, hb4⟩; dsimp only) | (go_at_call 60; (with_reducible refine (shaFirst_any _).mono ?_); rintro e w5 ⟨rfl, hf5, hb5⟩; dsimp only))
  have hSQ : shaSQ w ALL A3 w3.heap.size w5 := by
    have h4 : shaSQ w ALL A3 w3.heap.size w4 := ⟨H3.out.2.1.trans (hb4.mono H3.out.2.1.size), rd_up (H3.out.2.2.1.keep hb4) hb4.size, hk4, H3.out.1.below hb4 H3.out.1.lt⟩
    exact h4.below hb5
  have hcap3 : ALL.length ≤ cap3 := H3.out.2.2.2.1
  have hm3 : cap3 ≤ 9223372036854775807 := H3.out.2.2.2.2
  have hcl : ∀ j, j < 8 → w5.cell? ⟨w4.heap.size, 0 + j, none⟩ = some (.int .u32 (U ((stl ini).getD j 0))) := fun j hj => by
    rw [Nat.zero_add]; exact hf5.cell (vus_at hj)
  have HQ0 := Lib.hid hSQ
  have HF0 := Lib.hid (⟨hf5.lt, hcl⟩ : w4.heap.size < w5.heap.size ∧ _)
  generalize w3.heap.size = kb at HQ0 ⊢
  generalize w4.heap.size = fb at HF0 ⊢
  clear hSQ hcl hf5 hk4 hb4 hb5 H3
  obtain ⟨m, hm⟩ : ∃ m, ALL.length = 64 * m := ⟨R.length / 64 + manyOf (R.length % 64), by rw [HALL.out]; exact all_len R⟩
  obtain ⟨F, hlen, HF0', HFs⟩ : ∃ F : Nat → St, Hid (sumR R = joinB (F m)) ∧ F 0 = ini ∧ Hid (∀ k, change (F k) ((ALL.drop (64 * k)).take 64) = F (k + 1)) := by
    refine ⟨blocks change ini ALL, ?_, rfl, fun k => rfl⟩
    show sumR R = _
    unfold sumR
    rw [← HALL.out, hm, Nat.mul_div_cancel_left _ (by omega : 0 < 64)]
  rw [← HF0'] at HF0
  clear HF0'
  have hbig : ALL.length < 2000000000 := by
    rw [HALL.out, List.length_append, close_len]; have := nz_lt R.length; omega
  obtain ⟨L, hL⟩ : ∃ L, L = ALL.length := ⟨_, rfl⟩
  rw [← hL] at hm hcap3 hbig ⊢
  have HLL := Lib.hid hL
  clear hL hl hcap HBs
  go_wp2_with fail
  go_loopw [5, 6] (fun vs i wq => ∃ (k sb so c8 : Nat), k ≤ m ∧ i = .int .i64 ((64 * k : Nat) : Int) ∧ vs = .slice (some ⟨sb, so, none⟩) 8 c8 ∧ 8 ≤ c8 ∧ c8 ≤ 9223372036854775807 ∧ sb < wq.heap.size ∧ (∀ j, j < 8 → wq.cell? ⟨sb, so + j, none⟩ = some (.int .u32 (U ((stl (F k)).getD j 0)))) ∧ shaSQ w ALL A3 kb wq) (fun _ i _ => L - (intOf i).toNat)
  case atStart => exact ⟨0, fb, 0, 8, Nat.zero_le _, rfl, rfl, Nat.le_refl _, by omega, HF0.out.1, HF0.out.2, HQ0.out⟩
  case round =>
    obtain ⟨k, sb, so, c8, hk, rfl, rfl, hc8, hcm8, hsb, hsc, hX⟩ := hrel
    have HX := Lib.hid hX
    have HSC := Lib.hid hsc
    clear hX hsc HQ0 HF0
    by_cases hlt : k < m
    · have k1 : ((64 * k : Nat) : Int) < (L : Int) := by omega
      obtain ⟨b3, o3, rfl, hb3lt, hb3c⟩ := HX.out.rd (by rw [← HLL.out]; omega)
      have hC : ((ALL.drop (64 * k)).take 64).length = 64 := by rw [List.length_take, List.length_drop, ← HLL.out]; omega
      have hrdC : Rd wr wr.heap.size (some ⟨b3, o3 + 64 * k, none⟩) ((ALL.drop (64 * k)).take 64) := fun _ =>
        ⟨b3, o3 + 64 * k, rfl, hb3lt, fun j hj => by
          rw [hC] at hj
          rw [Nat.add_assoc, hb3c (64 * k + j) (by rw [← HLL.out]; omega)]
          simp [List.getD, List.getElem?_take, hj]⟩
      have hkc : ∀ j, j < 64 → wr.cell? ⟨kb, 0 + j, none⟩ = some (.int .u32 (U (KK.getD j 0))) := fun j hj => by
        rw [Nat.zero_add]; exact HX.out.k.cell (vus_at hj)
      have hch := rchange_walk ((ALL.drop (64 * k)).take 64) hC (F k) sb so c8 (some ⟨b3, o3 + 64 * k, none⟩) (cap3 - 64 * k) kb 0 64 wr hsb hc8 hcm8 HSC.out hrdC HX.out.k.lt hkc
      rw [← change_eq, HFs.out k] at hch
      have HCH := Lib.hid hch
      obtain ⟨i64, hi64⟩ : ∃ i64, i64 = 64 * k := ⟨_, rfl⟩
      have HI := Lib.hid hi64
      rw [← hi64] at HCH k1 ⊢
      have k2 : IntKind.i64.wrap ((i64 : Int) + 64) = (i64 : Int) + 64 := IntWalk.i64_in _ (by omega)
      have k3 : (0 : Int) ≤ (i64 : Int) := by omega
      have k4 : (i64 : Int) ≤ (i64 : Int) + 64 := by omega
      have k5 : (i64 : Int) + 64 ≤ (cap3 : Int) := by omega
      have k6 : ¬ cap3 = i64 := by omega
      have k7 : ((i64 : Int) + 64).toNat = i64 + 64 := by omega
      have k8 : i64 + 64 - i64 = 64 := by omega
      clear hch hkc hrdC hC hb3c hi64
      go_upto_region 8 with (go_at_call 61; (with_reducible refine HCH.out.mono ?_); rintro e w7 ⟨v7, rfl, ho7, hb7⟩; dsimp only)
      obtain ⟨g7, c7, rfl, _, hg7l, hc7, hm7, hcells7⟩ := ho7.eight rfl
      have H7 : Hid (∀ j, j < 8 → w7.cell? ⟨g7, 0 + j, none⟩ = some (.int .u32 (U ((stl (F (k + 1))).getD j 0)))) := hcells7
      have HX7 := Lib.hid (HX.out.below hb7)
      have k9 : IntKind.i64.wrap ((i64 : Int) + 64) = (i64 : Int) + 64 := k2
      clear hcells7 ho7 hb7 HSC HX HCH k6 k7 k8
      go_wp2_with fail
      go_roundw
      case rel => exact ⟨k + 1, g7, 0, c7, by omega, by congr 1; have := HI.out; omega, rfl, hc7, hm7, hg7l, H7.out, HX7.out⟩
      case measure => simp [intOf]; omega
    · obtain rfl : k = m := by omega
      have k1 : ¬ ((64 * k : Nat) : Int) < (L : Int) := by omega
      obtain ⟨i64, hi64⟩ : ∃ i64, i64 = 64 * k := ⟨_, rfl⟩
      rw [← hi64] at k1 ⊢
      clear hi64
      obtain ⟨S, hS⟩ : ∃ S, S = F k := ⟨_, rfl⟩
      have HSd := Lib.hid hS
      rw [← hS] at HSC
      clear hS
      generalize wr = W at HX HSC hsb ⊢
      have hz : ∀ w, (zeroValue 25).run Tryd.prog w = .ok (.agg (vbs Z32).toArray) w := fun _ => by kernel_rfl
      have HH0 := Lib.hid (show Below W.heap.size W (W.alloc (Obj.cells (vbs Z32).toArray 25)) ∧ Blk (W.alloc (Obj.cells (vbs Z32).toArray 25)) W.heap.size 25 (vbs (jb S 0)) from ⟨(Below.refl _ _).alloc (Nat.le_refl _) _, by
        have := Blk.new W 25 (vbs Z32).toArray
        rwa [List.toList_toArray, ← jb_zero S] at this⟩)
      go_upto_region 11 with fail
      generalize W.alloc (Obj.cells (vbs Z32).toArray 25) = w8 at HH0 ⊢
      clear hz
      go_wp2_with fail
      go_loopw [8] (fun i wq => ∃ j : Nat, j ≤ 32 ∧ i = .int .i64 j ∧ Below W.heap.size W wq ∧ Blk wq W.heap.size 25 (vbs (jb S j))) (fun i _ => 32 - (intOf i).toNat)
      case atStart => exact ⟨0, Nat.zero_le _, rfl, HH0.out⟩
      case round =>
        obtain ⟨j, hj, rfl, hb9, hB9⟩ := hrel
        clear HH0
        have HB9 := Lib.hid hb9
        have HK9 := Lib.hid hB9
        by_cases hj32 : j < 32
        · have j1 : (j : Int) < 32 := by omega
          have cl : wr.cell? ⟨sb, so + j / 4, none⟩ = some (.int .u32 (U (letter S (j / 4)))) := by
            rw [hb9.cell (p := ⟨sb, so + j / 4, none⟩) hsb, HSC.out (j / 4) (by omega), stl_letter S _ (by omega)]
          have q1 : IntKind.i64.wrap ((j : Int).tdiv 4) = ((j / 4 : Nat) : Int) := by rw [Int.tdiv_eq_ediv_of_nonneg (by omega), IntWalk.i64_in _ (by omega)]; omega
          have q2 : IntKind.i64.wrap ((j : Int).tmod 4) = ((j % 4 : Nat) : Int) := by rw [Int.tmod_eq_emod_of_nonneg (by omega), IntWalk.i64_in _ (by omega)]; omega
          have q2' : (j : Int).tmod 4 = ((j % 4 : Nat) : Int) := by rw [Int.tmod_eq_emod_of_nonneg (by omega)]; omega
          have q3 : (0 : Int) ≤ ((j / 4 : Nat) : Int) := by omega
          have q4 : ((j / 4 : Nat) : Int) < 8 := by omega
          have c9 := hB9.cell (vbs_at (l := jb S j) (j := j) (by rw [jb_len]; omega))
          have f9 := hB9.free j
          obtain ⟨x, hx⟩ : ∃ x, x = letter S (j / 4) := ⟨_, rfl⟩
          obtain ⟨jd, hjd⟩ : ∃ jd, jd = j / 4 := ⟨_, rfl⟩
          obtain ⟨jm, hjm⟩ : ∃ jm, jm = j % 4 := ⟨_, rfl⟩
          have HXl := Lib.hid (show x = letter S (j / 4) ∧ jm = j % 4 from ⟨hx, hjm⟩)
          have hjm4 : jm < 4 := by omega
          rw [← hx] at cl
          rw [← hjd] at cl q1 q3 q4
          rw [← hjm] at q2 q2'
          clear hx hjd hjm hb9 hB9
          have q5 : (j : Int).tdiv 4 = (jd : Int) := by rw [← q1, IntWalk.i64_in _ (by have := Int.tdiv_le_self (a := (j : Int)) 4 (by omega); have := Int.tdiv_nonneg (a := (j : Int)) (b := 4) (by omega) (by omega); omega)]
          go_wp2_with fail
          go_loopw [9, 10] (fun v n wq => ∃ t : Nat, jm + t ≤ 3 ∧ n = .int .i64 ((jm + t : Nat) : Int) ∧ v = .int .u32 (U (x >>> (8 * t))) ∧ wq = wr) (fun _ n _ => 3 - (intOf n).toNat)
          case atStart => exact ⟨0, by omega, rfl, by simp, rfl⟩
          case round =>
            obtain ⟨t, ht, rfl, rfl, rfl⟩ := hrel
            by_cases ht3 : jm + t < 3
            · have t1 : ((jm + t : Nat) : Int) < 3 := by omega
              have t2 := U_div256 (x >>> (8 * t))
              rw [← BitVec.shiftRight_add] at t2
              have t3 : IntKind.i64.wrap (((jm + t : Nat) : Int) + 1) = ((jm + (t + 1) : Nat) : Int) := by rw [IntWalk.i64_in _ (by omega)]; omega
              obtain ⟨n, hn⟩ : ∃ n, n = jm + t := ⟨_, rfl⟩
              rw [← hn] at t1 t3 ⊢
              have HN := Lib.hid hn
              clear hn
              go_wp2_with fail
              go_roundw
              case rel => exact ⟨t + 1, by omega, by first | rfl | (congr 1; have := HN.out; omega), by rw [show 8 * (t + 1) = 8 * t + 8 by omega], by first | rfl | trivial⟩
              case measure => have h9 := HN.out; simp [intOf]; omega
            · have t1 : ¬ ((jm + t : Nat) : Int) < 3 := by omega
              have t2 := U_byte (x >>> (8 * t))
              have t2' := U_byte' (x >>> (8 * t))
              have HTm := Lib.hid (show jm + t = 3 by omega)
              obtain ⟨n, hn⟩ : ∃ n, n = jm + t := ⟨_, rfl⟩
              rw [← hn] at t1 ⊢
              clear hn
              go_wp2_with fail
              go_roundw
              case rel =>
                refine ⟨j + 1, by omega, by simp, HB9.out.setCell (Nat.le_refl _) _, ?_⟩
                have h1 := HK9.out.set j (.int .u8 (Bt (byteOf S j)))
                rw [vbs_set, jb_step S j hj32] at h1
                have e : byteOf S j = (x >>> (8 * t)).setWidth 8 := by
                  unfold byteOf
                  have h1 := HXl.out
                  have h2 := HTm.out
                  rw [← h1.1, ← h1.2, show 24 - 8 * jm = 8 * t by omega]
                rw [e] at h1
                exact h1
              case measure => simp [intOf]; omega
        · obtain rfl : j = 32 := by omega
          have HIf := Lib.hid (i25 (vs := vbs (jb S 32)) (by rw [vbs_len, jb_len]))
          have HRg := Lib.hid hB9.range
          have hr9 : Blk wr w.heap.size 25 (vbs Z32) := HX.out.r.below hb9 HX.out.r.lt
          have HTh : Hid (wr.there w.heap.size 0 (vbs (jb S 32)).toArray.size) := there_z hr9 (jb_len _ _)
          have hbw : Below w.heap.size w wr := HX.out.bel.trans (hb9.mono HX.out.bel.size)
          have HR9 := Lib.hid hr9
          have HBW := Lib.hid hbw
          clear hb9 hB9 hr9 hbw
          go_wp2_with (first | (with_reducible refine wpList_load_mid rfl 25 (.tmp 7) rfl W.heap.size 0 rfl (vbs (jb S 32)) _ HRg.out Tryd.underlying25 rfl HIf.out ?_) | (with_reducible refine wpList_store_mid rfl 25 (.tmp 2) (.tmp 57) rfl w.heap.size 0 (vbs (jb S 32)).toArray rfl rfl HTh.out (info_arr HIf.out) (all_oneCell_toArray (vbs_one _)) ?_))
          have hSs := HR9.out.setCells (vbs (jb S 32)) (by rw [vbs_len, jb_len, vbs_len, Z32_len])
          have hSb := below_setCells (Nat.le_refl w.heap.size) (vbs (jb S 32)) 0 wr HBW.out
          generalize wr.setCells w.heap.size 0 (vbs (jb S 32)) = W8 at hSs hSb
          have e : sumR R = jb S 32 := by rw [hlen.out, jb_end, HSd.out]
          exact bodyPost_ret (v := .agg (vbs (jb S 32)).toArray) (results_cell_row Tryd.results50 _ W8 w.heap.size 25 (vbs (jb S 32)).toArray (0, 0) _ rfl hSs Tryd.underlying25 rfl (info_arr HIf.out)) rfl ⟨by rw [e], hSb⟩
open Go.RowKit
set_option linter.unusedVariables false
set_option linter.unusedSimpArgs false
structure TQ (w : World) (hb : Nat) (D : List (BitVec 8)) (wq : World) : Prop where
  bel : Below w.heap.size w wq
  r : Blk wq w.heap.size 25 (vbs Z32)
  h : Blk wq hb 25 (vbs D)
set_option maxRecDepth 100000 in
set_option maxHeartbeats 2000000 in
theorem rtwice_gen (sm : List (BitVec 8) → List (BitVec 8)) (sm_len : ∀ R, (sm R).length = 32)
    (hSum : ∀ (A : Option Addr) (cap : Nat) (R : List (BitVec 8)) (w : World), Rd w w.heap.size A R → R.length ≤ cap → (A = none → cap = 0) → R.length < 1000000000 →
      Calls Tryd.prog 50 #[.slice A R.length cap] w fun e w' => e = .returned (.agg (vbs (sm R)).toArray) ∧ Below w.heap.size w w')
    (A : Option Addr) (cap : Nat) (R : List (BitVec 8)) (w : World) (hR : Rd w w.heap.size A R) (hcap : R.length ≤ cap) (hA : A = none → cap = 0) (hl : R.length < 1000000000) :
    Calls Tryd.prog 40 #[.slice A R.length cap] w fun e w' => e = .returned (.agg (vbs (sm (sm R))).toArray) ∧ Below w.heap.size w w' := by
  have hz : ∀ w, (zeroValue 25).run Tryd.prog w = .ok (.agg (vbs Z32).toArray) w := fun _ => by kernel_rfl
  have hb0 : Below w.heap.size w (w.alloc (Obj.cells (vbs Z32).toArray 25)) := (Below.refl _ _).alloc (Nat.le_refl _) _
  have hr0 := Blk.new w 25 (vbs Z32).toArray
  rw [List.toList_toArray] at hr0
  have HR0 := Lib.hid hr0
  have HB0 := Lib.hid hb0
  have HS := Lib.hid (hSum A cap R (w.alloc (Obj.cells (vbs Z32).toArray 25)) (rd_up (hR.keep hb0) hb0.size) hcap hA hl)
  have KS := Lib.hid hSum
  have KL := Lib.hid sm_len
  obtain ⟨D, hD⟩ : ∃ D, D = sm R := ⟨_, rfl⟩
  have hDl : D.length = 32 := by rw [hD]; exact sm_len R
  have HDl := Lib.hid hDl
  obtain ⟨D2, hD2⟩ : ∃ D2, D2 = sm D := ⟨_, rfl⟩
  have HD2l := Lib.hid (show D2.length = 32 by rw [hD2]; exact sm_len D)
  have HD2 := Lib.hid hD2
  rw [← hD] at HS ⊢
  rw [← hD2]
  clear hR hb0 hr0 hA hSum sm_len hD hDl hD2
  go_enter Tryd.func40, Tryd.ntmps40
  go_upto_region 2 with (first | (go_at_call 50; (with_reducible refine HS.out.mono ?_); rintro e w1 ⟨rfl, hb1⟩; dsimp only) | (with_reducible refine wpList_store_mid rfl 25 (.tmp 3) (.tmp 7) rfl w1.heap.size 0 (vbs D).toArray rfl rfl (there_new25 w1 HDl.out) (i25v HDl.out) (all_oneCell_toArray (vbs_one _)) ?_))
  have hT : TQ w w1.heap.size D ((w1.alloc (Obj.cells (vbs Z32).toArray 25)).setCells w1.heap.size 0 (vbs D)) := by
    have b1 : Below w.heap.size w w1 := HB0.out.trans (hb1.mono (by simp))
    have r1 : Blk w1 w.heap.size 25 (vbs Z32) := HR0.out.below hb1 HR0.out.lt
    exact ⟨Below.laid b1 b1.size _, Blk.other_setCells (by have := r1.lt; omega) _ _ _ (r1.alloc _), Blk.laid w1 HDl.out⟩
  have hlt : w.heap.size < w1.heap.size := (HR0.out.below hb1 HR0.out.lt).lt
  have HT := Lib.hid hT
  generalize w1.heap.size = hb at HT hlt ⊢
  generalize World.setCells _ hb 0 _ = W at HT ⊢
  clear hT hb1 HS HR0 HB0 hz
  have hWs : hb + 1 ≤ W.heap.size := HT.out.h.lt
  go_wp2_with fail
  go_loopw [4, 5] (fun v i wq => ∃ j : Nat, j ≤ 32 ∧ i = .int .i64 j ∧ TQ w hb D wq ∧ hb + 1 ≤ wq.heap.size ∧ OB wq (hb + 1) v (D.take j)) (fun _ i _ => 32 - (intOf i).toNat)
  case atStart => exact ⟨0, Nat.zero_le _, rfl, HT.out, hWs, OB.nil _ _⟩
  case round =>
    obtain ⟨j, hj, rfl, hX, hs, ho⟩ := hrel
    clear HT hWs
    by_cases hj32 : j < 32
    · have j1 : (j : Int) < 32 := by omega
      have j0 : (0 : Int) ≤ (j : Int) := by omega
      have c0 := hX.h.cell (vbs_at (l := D) (j := j) (by rw [HDl.out]; omega))
      obtain ⟨x, hx⟩ : ∃ x, x = D.getD j 0 := ⟨_, rfl⟩
      have Hx := Lib.hid hx
      rw [← hx] at c0
      clear hx
      have HX := Lib.hid hX
      have HO := Lib.hid (ho.alloc (.cells #[.int .u8 (Bt x)] 5))
      have hs1 := Lib.hid (src_one wr x)
      have hB2 := Lib.hid (hX.bel.alloc hX.bel.size (.cells #[.int .u8 (Bt x)] 5))
      have hBs := Lib.hid (show hb + 1 ≤ (wr.alloc (.cells #[.int .u8 (Bt x)] 5)).heap.size from Nat.le_trans hs (by simp))
      have hLn : Hid ((D.take j).length + [x].length ≤ 140737488355328) := by
        show (D.take j).length + [x].length ≤ _
        rw [List.length_take]; simp; omega
      clear hX ho
      go_upto_region 5 with (refine wpList_push (o := ⟨some 17, _, _, _, _, _⟩) rfl (.tmp 12) (.tmp 16) rfl rfl (hb + 1) _ (D.take j) [x] rfl HO.out (some ⟨wr.heap.size, 0, none⟩) 1 1 rfl (one_len _) hs1.out (fun h => by cases h) hLn.out hB2.out hBs.out (by omega) ?_; intro v' w' h1 h2 h3)
      have e : D.take (j + 1) = D.take j ++ [x] := by
        rw [List.take_succ_eq_append_getElem (by rw [HDl.out]; omega), Hx.out]
        simp [List.getD, HDl.out, hj32]
      rw [← e] at h1
      have hX' : TQ w hb D w' := ⟨h2, (HX.out.r.alloc _).below h3 (by omega), (HX.out.h.alloc _).below h3 (by omega)⟩
      have HX' := Lib.hid hX'
      have H1 := Lib.hid h1
      have H3 := Lib.hid (Nat.le_trans hBs.out h3.size)
      clear hX' h1 h2 h3 e HO hs1 hB2 hBs hLn c0
      go_wp2_with fail
      go_roundw
      case rel => exact ⟨j + 1, by omega, by simp, HX'.out, H3.out, H1.out⟩
      case measure => simp [intOf]; omega
    · obtain rfl : j = 32 := by omega
      have e32 : D.take 32 = D := List.take_of_length_le (by rw [HDl.out]; omega)
      rw [e32] at ho
      obtain ⟨A4, c4, rfl, hrd4, hl4, hm4, hn4⟩ := ho.rd
      have HS2 := Lib.hid (KS.out A4 c4 D wr hrd4 hl4 hn4 (by rw [HDl.out]; omega))
      rw [← HD2.out] at HS2
      have HX := Lib.hid hX
      have HTh : Hid (∀ w9, Below wr.heap.size wr w9 → w9.there w.heap.size 0 (vbs D2).toArray.size) := fun w9 hb9 => there_z (HX.out.r.below hb9 HX.out.r.lt) HD2l.out
      obtain ⟨n, hn⟩ : ∃ n, n = D.length := ⟨_, rfl⟩
      rw [← hn] at HS2 ⊢
      clear hX ho hrd4 hl4 hm4 hn4 hn e32
      go_wp2_with (first | (go_at_call 50; (with_reducible refine HS2.out.mono ?_); rintro e w9 ⟨rfl, hb9⟩; dsimp only) | (with_reducible refine wpList_store_mid rfl 25 (.tmp 2) (.tmp 19) rfl w.heap.size 0 (vbs D2).toArray rfl rfl (HTh.out w9 hb9) (i25v HD2l.out) (all_oneCell_toArray (vbs_one _)) ?_))
      have hSs := (HX.out.r.below hb9 HX.out.r.lt).setCells (vbs D2) (by rw [vbs_len, HD2l.out, vbs_len, Z32_len])
      have hSb := below_setCells (Nat.le_refl w.heap.size) (vbs D2) 0 w9 (HX.out.bel.trans (hb9.mono HX.out.bel.size))
      generalize w9.setCells w.heap.size 0 (vbs D2) = W8 at hSs hSb
      exact bodyPost_ret (v := .agg (vbs D2).toArray) (results_cell_row Tryd.results40 _ W8 w.heap.size 25 (vbs D2).toArray (0, 0) _ rfl hSs Tryd.underlying25 rfl (i25v HD2l.out)) rfl ⟨rfl, hSb⟩
theorem rtwice_any (A : Option Addr) (cap : Nat) (R : List (BitVec 8)) (w : World) (hR : Rd w w.heap.size A R) (hcap : R.length ≤ cap) (hA : A = none → cap = 0) (hl : R.length < 1000000000) :
    Calls Tryd.prog 40 #[.slice A R.length cap] w fun e w' => e = .returned (.agg (vbs (twiceB R)).toArray) ∧ Below w.heap.size w w' :=
  rtwice_gen sumB sumB_len (fun A cap R w h1 h2 h3 h4 => rsum_any A cap R w h1 h2 h3 h4) A cap R w hR hcap hA hl
end Go.Proofs.YtihbmahjdmfjpaaDoor
