/- What the document's own times returns: the digits of the product. -/
import Derived.Test.YtjbjkddgefiicaaDoorDd
namespace Go.Proofs.YtjbjkddgefiicaaDoor
open Go.RowKit
set_option linter.unusedVariables false
set_option linter.unusedSimpArgs false
theorem val_zeros (n : Nat) : val (List.replicate n 0) = 0 := by
  induction n with
  | zero => rfl
  | succ n ih => simp [List.replicate_succ, val, ih]
theorem val_set (l : List Nat) (j x : Nat) (h : j < l.length) : val (l.set j (l.getD j 0 + x)) = val l + x * 10 ^ j := by
  induction l generalizing j with
  | nil => simp at h
  | cons d l ih =>
    cases j with
    | zero => simp [val]; omega
    | succ j =>
      have h1 := ih j (by simpa using h)
      simp only [List.set_cons_succ, val, List.getD_cons_succ]
      have e : 10 * (x * 10 ^ j) = x * 10 ^ (j + 1) := by rw [Nat.pow_succ, Nat.mul_comm 10, Nat.mul_assoc]
      omega
theorem madeN (w : World) (n : Nat) (hn : n < 1000000) : (Instr.makeSlice 69 (.int .i64 n) (.int .i64 n)).run Tryd.prog w = .ok (.slice (some ⟨w.heap.size, 0, none⟩) n n) (w.alloc (.cells (vns (List.replicate n 0)).toArray 3)) := by
  obtain ⟨i0, hi, hz0, hz1, hz2⟩ := info_parts infoI3
  have h := run_make (P := Tryd.prog) w 69 3 i0 (.int .i64 0) Tryd.underlying69 hi hz0 .i64 .i64 n n (by omega) (Int.le_refl _) (by rw [hz2]; omega) (by omega)
  simp only [Int.toNat_natCast, hz1, Nat.mul_one] at h
  rw [h]
  congr 3
  apply Array.toList_inj.1
  rw [show (Value.int .i64 0).cells = #[Value.int .i64 0] from rfl, toList_madeCells_one]
  simp [vns]
theorem val_put (l : List Nat) (j v : Nat) (h : j < l.length) : val (l.set j v) + l.getD j 0 * 10 ^ j = val l + v * 10 ^ j := by
  induction l generalizing j with
  | nil => simp at h
  | cons d l ih =>
    cases j with
    | zero => simp [val]; omega
    | succ j =>
      have h1 := ih j (by simpa using h)
      simp only [List.set_cons_succ, val, List.getD_cons_succ]
      have e : ∀ x : Nat, 10 * (x * 10 ^ j) = x * 10 ^ (j + 1) := fun x => by rw [Nat.pow_succ, Nat.mul_comm 10, Nat.mul_assoc]
      rw [← e, ← e]
      omega
theorem val_ge (l : List Nat) (j : Nat) (h : j < l.length) : l.getD j 0 * 10 ^ j ≤ val l := by
  have := val_put l j 0 h
  omega
theorem getD_ne (l : List Nat) (a j v : Nat) (h : a ≠ j) : (l.set a v).getD j 0 = l.getD j 0 := by simp [List.getD, List.getElem?_set, h]
theorem getD_eq (l : List Nat) (a v : Nat) (h : a < l.length) : (l.set a v).getD a 0 = v := by simp [List.getD, h]
/-- What holds while the carries are made. -/
structure TC3 (w : World) (ob n : Nat) (O : List Nat) (V D i : Nat) (wq : World) : Prop where
  bel : Below w.heap.size w wq
  blk : Blk wq ob 3 (vns O)
  len : O.length = n
  v : val O = V
  lo : ∀ j, j < i → O.getD j 0 < 10
  at_ : O.getD i 0 ≤ 2 * D
  hi : ∀ j, i < j → O.getD j 0 ≤ D
structure TR3 (w : World) (ob n : Nat) (O : List Nat) (V B : Nat) (wq : World) : Prop where
  bel : Below w.heap.size w wq
  blk : Blk wq ob 3 (vns O)
  len : O.length = n
  v : val O = V
  bd : ∀ j, O.getD j 0 ≤ B
set_option maxRecDepth 100000 in
set_option maxHeartbeats 4000000 in
theorem times_loop (X Y : List Nat) (hX : Dig X) (hY : Dig Y) (A B : Option Addr) (c c2 la lb : Nat) (w : World) (ha : la = X.length) (hb : lb = Y.length) (hRX : RdN w w.heap.size A X) (hRY : RdN w w.heap.size B Y) (hl : la < 1000) (hl2 : lb < 1000) :
    Calls Tryd.prog 47 #[.slice A la c, .slice B lb c2] w fun e w' => ∃ O, e = .returned (.slice (some ⟨w.heap.size, 0, none⟩) (la + lb + 1) (la + lb + 1)) ∧ Blk w' w.heap.size 3 (vns O) ∧ O.length = la + lb + 1 ∧ Dig O ∧ val O = val X * val Y ∧ Below w.heap.size w w' := by
  obtain ⟨n, hn⟩ : ∃ n, n = la + lb + 1 := ⟨_, rfl⟩
  rw [← hn]
  have hm : (Instr.makeSlice 69 (.int .i64 ((la : Int) + (lb : Int) + 1)) (.int .i64 ((la : Int) + (lb : Int) + 1))).run Tryd.prog w = .ok (.slice (some ⟨w.heap.size, 0, none⟩) n n) (w.alloc (.cells (vns (List.replicate n 0)).toArray 3)) := by
    rw [show (la : Int) + (lb : Int) + 1 = ((n : Nat) : Int) by omega]; exact madeN w n (by omega)
  have hm0 := madeN w n (by omega)
  have e1 : IntKind.i64.wrap ((la : Int) + (lb : Int)) = (la : Int) + (lb : Int) := IntWalk.i64_in _ (by omega)
  have e2 : IntKind.i64.wrap ((la : Int) + (lb : Int) + 1) = ((n : Nat) : Int) := by rw [IntWalk.i64_in _ (by omega)]; omega
  have H0 : Hid (TR3 w w.heap.size n (List.replicate n 0) (val (X.take 0) * val Y) (81 * (0 * lb)) (w.alloc (.cells (vns (List.replicate n 0)).toArray 3))) := ⟨(Below.refl _ _).alloc (Nat.le_refl _) _, by
    have := Blk.new w 3 (vns (List.replicate n 0)).toArray
    rwa [List.toList_toArray] at this, List.length_replicate, by rw [val_zeros]; simp [val], fun j => by
      by_cases h : j < n
      · simp [List.getD, h]
      · simp [List.getD, h]⟩
  have HX := Lib.hid hRX
  have HY := Lib.hid hRY
  have HDX := Lib.hid hX
  have HDY := Lib.hid hY
  have Hla := Lib.hid ha
  have Hlb := Lib.hid hb
  have HN := Lib.hid hn
  clear hRX hRY hX hY ha hb hn
  go_enter Tryd.func47, Tryd.ntmps47
  go_upto_region 3 with fail
  generalize w.alloc (.cells (vns (List.replicate n 0)).toArray 3) = w1 at H0 ⊢
  obtain ⟨ob, hob⟩ : ∃ ob, ob = w.heap.size := ⟨_, rfl⟩
  have Hob := Lib.hid hob
  rw [← hob] at H0 ⊢
  clear hob hm hm0 e1 e2
  go_wp2_with fail
  go_loopw [6] (fun iv wq => ∃ (i : Nat) (O : List Nat), i ≤ la ∧ iv = .int .i64 i ∧ TR3 w ob n O (val (X.take i) * val Y) (81 * (i * lb)) wq) (fun iv _ => la - (intOf iv).toNat)
  case atStart => exact ⟨0, _, Nat.zero_le _, rfl, H0.out⟩
  case round =>
    obtain ⟨i, O, hi, rfl, hT⟩ := hrel
    have HT := Lib.hid hT
    clear H0 hT
    by_cases hil : i < la
    · have i1 : (i : Int) < (la : Int) := by omega
      have i0 : (0 : Int) ≤ (i : Int) := by omega
      obtain ⟨xb, xo, rfl, hxlt, hxc⟩ := HX.out (by rw [← Hla.out]; omega)
      obtain ⟨x, hx⟩ : ∃ x, x = X.getD i 0 := ⟨_, rfl⟩
      have hx9 : x < 10 := by
        rw [hx]
        have hil' : i < X.length := by rw [← Hla.out]; exact hil
        have : X.getD i 0 = X[i] := by simp [List.getD, hil']
        rw [this]; exact HDX.out _ (List.getElem_mem hil')
      have Hx := Lib.hid hx
      go_wp2_with fail
      go_loopw [7] (fun kv wq => ∃ (k : Nat) (O : List Nat), k ≤ lb ∧ kv = .int .i64 k ∧ TR3 w ob n O (val (X.take i) * val Y + x * 10 ^ i * val (Y.take k)) (81 * (i * lb + k)) wq) (fun kv _ => lb - (intOf kv).toNat)
      case atStart => exact ⟨0, O, Nat.zero_le _, rfl, by simpa [val] using HT.out⟩
      case round =>
        obtain ⟨k, O, hk, rfl, hT⟩ := hrel
        have HTk := Lib.hid hT
        by_cases hkl : k < lb
        · obtain ⟨yb, yo, rfl, hylt, hyc⟩ := HY.out (by rw [← Hlb.out]; omega)
          obtain ⟨y, hy⟩ : ∃ y, y = Y.getD k 0 := ⟨_, rfl⟩
          have hy9 : y < 10 := by
            rw [hy]
            have hkl' : k < Y.length := by rw [← Hlb.out]; exact hkl
            have : Y.getD k 0 = Y[k] := by simp [List.getD, hkl']
            rw [this]; exact HDY.out _ (List.getElem_mem hkl')
          have Hy := Lib.hid hy
          obtain ⟨o, ho⟩ : ∃ o, o = O.getD (i + k) 0 := ⟨_, rfl⟩
          have Ho := Lib.hid ho
          have hob2 : o ≤ 81 * (i * lb + k) := by rw [ho]; exact hT.bd _
          have hbig : i * lb ≤ 1000 * 1000 := Nat.mul_le_mul (by omega) (by omega)
          have hxy : x * y ≤ 81 := Nat.mul_le_mul (show x ≤ 9 by omega) (show y ≤ 9 by omega)
          have hOb : Blk wr ob 3 (vns O) := hT.blk
          have hbw : Below w.heap.size w wr := hT.bel
          have co : wr.cell? ⟨ob, i + k, none⟩ = some (.int .i64 ((o : Nat) : Int)) := by rw [ho]; exact hOb.cell (vns_at (by have := HN.out; rw [hT.len]; omega))
          have fo := hOb.free (i + k)
          have cx : wr.cell? ⟨xb, xo + i, none⟩ = some (.int .i64 ((x : Nat) : Int)) := by rw [hx, hbw.cell (p := ⟨xb, xo + i, none⟩) hxlt]; exact hxc i (by rw [← Hla.out]; exact hil)
          have cy : wr.cell? ⟨yb, yo + k, none⟩ = some (.int .i64 ((y : Nat) : Int)) := by rw [hy, hbw.cell (p := ⟨yb, yo + k, none⟩) hylt]; exact hyc k (by rw [← Hlb.out]; exact hkl)
          have k0 : (0 : Int) ≤ (k : Int) := by omega
          have k1 : (k : Int) < (lb : Int) := by omega
          obtain ⟨p, hp⟩ : ∃ p, p = i + k := ⟨_, rfl⟩
          have Hp := Lib.hid hp
          obtain ⟨m1, hm1⟩ : ∃ m1, m1 = x * y := ⟨_, rfl⟩
          have Hm1 := Lib.hid hm1
          obtain ⟨z, hzz⟩ : ∃ z, z = o + m1 := ⟨_, rfl⟩
          have Hz := Lib.hid hzz
          rw [← hp] at co fo
          have w1' : IntKind.i64.wrap ((i : Int) + (k : Int)) = (p : Int) := by rw [IntWalk.i64_in _ (by omega)]; omega
          have w1'' : (i : Int) + (k : Int) = (p : Int) := by omega
          have w1p : IntKind.i64.wrap (p : Int) = (p : Int) := IntWalk.i64_in _ (by omega)
          have w2'' : (x : Int) * (y : Int) = (m1 : Int) := by rw [hm1, Int.natCast_mul]
          have w2' : IntKind.i64.wrap (m1 : Int) = (m1 : Int) := by rw [hm1, IntWalk.i64_in _ (by omega)]
          have w3'' : (o : Int) + (m1 : Int) = (z : Int) := by omega
          have w3' : IntKind.i64.wrap (z : Int) = (z : Int) := by rw [IntWalk.i64_in _ (by omega)]
          have n0 : (0 : Int) ≤ (p : Int) := by omega
          have n1 : (p : Int) < (n : Int) := by have := HN.out; omega
          have HXX := Lib.hid hxc
          clear hxc hyc ho hy hx hp hm1 hzz
          have n2 : p < n := by have := HN.out; have := Hp.out; omega
          have HTT := Lib.hid hT
          clear hT
          go_upto_region 8 with fail
          refine wp_calm_any ?_
          refine wp_region_but (z := 21) (fun w' : World => w'.cell? ⟨ob, p, none⟩ = some (.int .i64 ((o : Nat) : Int)) ∧ w'.cell? ⟨xb, xo + i, none⟩ = some (.int .i64 ((x : Nat) : Int)) ∧ w'.cell? ⟨yb, yo + k, none⟩ = some (.int .i64 ((y : Nat) : Int))) (by kernel_rfl) ?_
          have hS : (fun w' : World => w'.cell? ⟨ob, p, none⟩ = some (.int .i64 ((o : Nat) : Int)) ∧ w'.cell? ⟨xb, xo + i, none⟩ = some (.int .i64 ((x : Nat) : Int)) ∧ w'.cell? ⟨yb, yo + k, none⟩ = some (.int .i64 ((y : Nat) : Int))) wr.drew := ⟨co, cx, cy⟩
          have HBd := Lib.hid (show Blk wr.drew ob 3 (vns O) ∧ Below w.heap.size w wr.drew from ⟨hOb, hbw.drew⟩)
          have fd : wr.drew.frozen? ⟨ob, p, none⟩ = false := fo
          generalize wr.drew = wd at hS HBd fd ⊢
          refine AnyBut.take (i := 0) (v := ?_) rfl (by kernel_rfl) (by kernel_rfl) (by kernel_rfl) (by kernel_rfl) (fun _ _ _ h => h) (Or.inl ⟨by rfl, ?_⟩) hS ?_
          rotate_left
          · (intro wq hq; go_simp; try with_reducible rfl)
          try simp only [Act.put, List.setIfInBounds_toArray, List.set_cons_zero, List.set_cons_succ, List.getElem_toArray, List.getElem_cons_zero, List.getElem_cons_succ]
          refine AnyBut.take (i := 1) (v := ?_) rfl (by kernel_rfl) (by kernel_rfl) (by kernel_rfl) (by kernel_rfl) (fun _ _ _ h => h) (Or.inl ⟨by rfl, ?_⟩) hS ?_
          rotate_left
          · (intro wq hq; go_simp; try with_reducible rfl)
          try simp only [Act.put, List.setIfInBounds_toArray, List.set_cons_zero, List.set_cons_succ, List.getElem_toArray, List.getElem_cons_zero, List.getElem_cons_succ]
          refine AnyBut.take (i := 2) (v := ?_) rfl (by kernel_rfl) (by kernel_rfl) (by kernel_rfl) (by kernel_rfl) (fun _ _ _ h => h) (Or.inl ⟨by rfl, ?_⟩) hS ?_
          rotate_left
          · (intro wq hq; go_simp; try with_reducible rfl)
          try simp only [Act.put, List.setIfInBounds_toArray, List.set_cons_zero, List.set_cons_succ, List.getElem_toArray, List.getElem_cons_zero, List.getElem_cons_succ]
          refine AnyBut.take (i := 3) (v := ?_) rfl (by kernel_rfl) (by kernel_rfl) (by kernel_rfl) (by kernel_rfl) (fun _ _ _ h => h) (Or.inl ⟨by rfl, ?_⟩) hS ?_
          rotate_left
          · (intro wq hq; go_simp; try with_reducible rfl)
          try simp only [Act.put, List.setIfInBounds_toArray, List.set_cons_zero, List.set_cons_succ, List.getElem_toArray, List.getElem_cons_zero, List.getElem_cons_succ]
          refine AnyBut.take (i := 4) (v := ?_) rfl (by kernel_rfl) (by kernel_rfl) (by kernel_rfl) (by kernel_rfl) (fun _ _ _ h => h) (Or.inl ⟨by rfl, ?_⟩) hS ?_
          rotate_left
          · (intro wq hq; go_simp; try with_reducible rfl)
          try simp only [Act.put, List.setIfInBounds_toArray, List.set_cons_zero, List.set_cons_succ, List.getElem_toArray, List.getElem_cons_zero, List.getElem_cons_succ]
          refine AnyBut.take (i := 5) (v := ?_) rfl (by kernel_rfl) (by kernel_rfl) (by kernel_rfl) (by kernel_rfl) (fun _ _ _ h => h) (Or.inl ⟨by rfl, ?_⟩) hS ?_
          rotate_left
          · (intro wq hq; go_simp; try with_reducible rfl)
          try simp only [Act.put, List.setIfInBounds_toArray, List.set_cons_zero, List.set_cons_succ, List.getElem_toArray, List.getElem_cons_zero, List.getElem_cons_succ]
          refine AnyBut.take (i := 6) (v := ?_) rfl (by kernel_rfl) (by kernel_rfl) (by kernel_rfl) (by kernel_rfl) (fun _ _ _ h => h) (Or.inl ⟨by rfl, ?_⟩) hS ?_
          rotate_left
          · (intro wq hq; go_simp; try with_reducible rfl)
          try simp only [Act.put, List.setIfInBounds_toArray, List.set_cons_zero, List.set_cons_succ, List.getElem_toArray, List.getElem_cons_zero, List.getElem_cons_succ]
          refine AnyBut.take (i := 7) (v := ?_) rfl (by kernel_rfl) (by kernel_rfl) (by kernel_rfl) (by kernel_rfl) (fun _ _ _ h => h) (Or.inl ⟨by rfl, ?_⟩) hS ?_
          rotate_left
          · (intro wq hq; go_simp; try with_reducible rfl)
          try simp only [Act.put, List.setIfInBounds_toArray, List.set_cons_zero, List.set_cons_succ, List.getElem_toArray, List.getElem_cons_zero, List.getElem_cons_succ]
          refine AnyBut.take (i := 8) (v := ?_) rfl (by kernel_rfl) (by kernel_rfl) (by kernel_rfl) (by kernel_rfl) (fun _ _ _ h => h) (Or.inl ⟨by rfl, ?_⟩) hS ?_
          rotate_left
          · (intro wq hq; go_simp; try with_reducible rfl)
          try simp only [Act.put, List.setIfInBounds_toArray, List.set_cons_zero, List.set_cons_succ, List.getElem_toArray, List.getElem_cons_zero, List.getElem_cons_succ]
          refine AnyBut.take (i := 9) (v := ?_) rfl (by kernel_rfl) (by kernel_rfl) (by kernel_rfl) (by kernel_rfl) (fun _ _ _ h => h) (Or.inl ⟨by rfl, ?_⟩) hS ?_
          rotate_left
          · (intro wq hq; obtain ⟨hq0, hq1, hq2⟩ := hq; go_simp; try with_reducible rfl)
          try simp only [Act.put, List.setIfInBounds_toArray, List.set_cons_zero, List.set_cons_succ, List.getElem_toArray, List.getElem_cons_zero, List.getElem_cons_succ]
          refine AnyBut.take (i := 10) (v := ?_) rfl (by kernel_rfl) (by kernel_rfl) (by kernel_rfl) (by kernel_rfl) (fun _ _ _ h => h) (Or.inl ⟨by rfl, ?_⟩) hS ?_
          rotate_left
          · (intro wq hq; go_simp; try with_reducible rfl)
          try simp only [Act.put, List.setIfInBounds_toArray, List.set_cons_zero, List.set_cons_succ, List.getElem_toArray, List.getElem_cons_zero, List.getElem_cons_succ]
          refine AnyBut.take (i := 11) (v := ?_) rfl (by kernel_rfl) (by kernel_rfl) (by kernel_rfl) (by kernel_rfl) (fun _ _ _ h => h) (Or.inl ⟨by rfl, ?_⟩) hS ?_
          rotate_left
          · (intro wq hq; go_simp; try with_reducible rfl)
          try simp only [Act.put, List.setIfInBounds_toArray, List.set_cons_zero, List.set_cons_succ, List.getElem_toArray, List.getElem_cons_zero, List.getElem_cons_succ]
          refine AnyBut.take (i := 12) (v := ?_) rfl (by kernel_rfl) (by kernel_rfl) (by kernel_rfl) (by kernel_rfl) (fun _ _ _ h => h) (Or.inl ⟨by rfl, ?_⟩) hS ?_
          rotate_left
          · (intro wq hq; go_simp; try with_reducible rfl)
          try simp only [Act.put, List.setIfInBounds_toArray, List.set_cons_zero, List.set_cons_succ, List.getElem_toArray, List.getElem_cons_zero, List.getElem_cons_succ]
          refine AnyBut.take (i := 13) (v := ?_) rfl (by kernel_rfl) (by kernel_rfl) (by kernel_rfl) (by kernel_rfl) (fun _ _ _ h => h) (Or.inl ⟨by rfl, ?_⟩) hS ?_
          rotate_left
          · (intro wq hq; obtain ⟨hq0, hq1, hq2⟩ := hq; go_simp; try with_reducible rfl)
          try simp only [Act.put, List.setIfInBounds_toArray, List.set_cons_zero, List.set_cons_succ, List.getElem_toArray, List.getElem_cons_zero, List.getElem_cons_succ]
          refine AnyBut.take (i := 14) (v := ?_) rfl (by kernel_rfl) (by kernel_rfl) (by kernel_rfl) (by kernel_rfl) (fun _ _ _ h => h) (Or.inl ⟨by rfl, ?_⟩) hS ?_
          rotate_left
          · (intro wq hq; go_simp; try with_reducible rfl)
          try simp only [Act.put, List.setIfInBounds_toArray, List.set_cons_zero, List.set_cons_succ, List.getElem_toArray, List.getElem_cons_zero, List.getElem_cons_succ]
          refine AnyBut.take (i := 15) (v := ?_) rfl (by kernel_rfl) (by kernel_rfl) (by kernel_rfl) (by kernel_rfl) (fun _ _ _ h => h) (Or.inl ⟨by rfl, ?_⟩) hS ?_
          rotate_left
          · (intro wq hq; go_simp; try with_reducible rfl)
          try simp only [Act.put, List.setIfInBounds_toArray, List.set_cons_zero, List.set_cons_succ, List.getElem_toArray, List.getElem_cons_zero, List.getElem_cons_succ]
          refine AnyBut.take (i := 16) (v := ?_) rfl (by kernel_rfl) (by kernel_rfl) (by kernel_rfl) (by kernel_rfl) (fun _ _ _ h => h) (Or.inl ⟨by rfl, ?_⟩) hS ?_
          rotate_left
          · (intro wq hq; go_simp; try with_reducible rfl)
          try simp only [Act.put, List.setIfInBounds_toArray, List.set_cons_zero, List.set_cons_succ, List.getElem_toArray, List.getElem_cons_zero, List.getElem_cons_succ]
          refine AnyBut.take (i := 17) (v := ?_) rfl (by kernel_rfl) (by kernel_rfl) (by kernel_rfl) (by kernel_rfl) (fun _ _ _ h => h) (Or.inl ⟨by rfl, ?_⟩) hS ?_
          rotate_left
          · (intro wq hq; obtain ⟨hq0, hq1, hq2⟩ := hq; go_simp; try with_reducible rfl)
          try simp only [Act.put, List.setIfInBounds_toArray, List.set_cons_zero, List.set_cons_succ, List.getElem_toArray, List.getElem_cons_zero, List.getElem_cons_succ]
          refine AnyBut.take (i := 18) (v := ?_) rfl (by kernel_rfl) (by kernel_rfl) (by kernel_rfl) (by kernel_rfl) (fun _ _ _ h => h) (Or.inl ⟨by rfl, ?_⟩) hS ?_
          rotate_left
          · (intro wq hq; go_simp; try with_reducible rfl)
          try simp only [Act.put, List.setIfInBounds_toArray, List.set_cons_zero, List.set_cons_succ, List.getElem_toArray, List.getElem_cons_zero, List.getElem_cons_succ]
          refine AnyBut.take (i := 19) (v := ?_) rfl (by kernel_rfl) (by kernel_rfl) (by kernel_rfl) (by kernel_rfl) (fun _ _ _ h => h) (Or.inl ⟨by rfl, ?_⟩) hS ?_
          rotate_left
          · (intro wq hq; go_simp; try with_reducible rfl)
          try simp only [Act.put, List.setIfInBounds_toArray, List.set_cons_zero, List.set_cons_succ, List.getElem_toArray, List.getElem_cons_zero, List.getElem_cons_succ]
          refine AnyBut.take (i := 20) (v := ?_) rfl (by kernel_rfl) (by kernel_rfl) (by kernel_rfl) (by kernel_rfl) (fun _ _ _ h => h) (Or.inl ⟨by rfl, ?_⟩) hS ?_
          rotate_left
          · (intro wq hq; go_simp; try with_reducible rfl)
          try simp only [Act.put, List.setIfInBounds_toArray, List.set_cons_zero, List.set_cons_succ, List.getElem_toArray, List.getElem_cons_zero, List.getElem_cons_succ]
          have s0 := hS.1
          refine AnyBut.gone (i := 21) (by kernel_rfl) rfl (by rfl) (fun K hK => ?_)
          go_simp
          refine hK _ _ (fun h => absurd rfl h) ?_
          clear hK K
          refine AnyBut.done (by kernel_rfl) ?_ _
          dsimp only [Exit.then]
          have hnew : TR3 w ob n (O.set p z) (val (X.take i) * val Y + x * 10 ^ i * val (Y.take (k + 1))) (81 * (i * lb + (k + 1))) (wd.setCell ⟨ob, p, none⟩ (.int .i64 ((z : Nat) : Int))) := by
            refine ⟨HBd.out.2.setCell (by rw [Hob.out]; exact Nat.le_refl _) _, ?_, by rw [List.length_set]; exact HTT.out.len, ?_, fun j => ?_⟩
            · have := HBd.out.1.set p (.int .i64 ((z : Nat) : Int)); rwa [vns_set] at this
            · have h1 := val_set O p m1 (by rw [HTT.out.len]; exact n2)
              rw [Hp.out, ← Ho.out, ← Hp.out, ← Hz.out] at h1
              rw [h1, HTT.out.v, val_take_succ, ← Hy.out, Nat.add_assoc]
              congr 1
              rw [Nat.mul_add, Hp.out, Hm1.out, Nat.pow_add]
              congr 1
              ac_rfl
            · have hz9 : z ≤ 81 * (i * lb + (k + 1)) := by have := Hz.out; have := Hm1.out; omega
              by_cases e : p = j
              · subst e
                have : (O.set p z).getD p 0 = z := by simp [List.getD, HTT.out.len, n2]
                rw [this]; exact hz9
              · have : (O.set p z).getD j 0 = O.getD j 0 := by simp [List.getD, List.getElem?_set, e]
                rw [this]; have := HTT.out.bd j; omega
          have HNEW := Lib.hid hnew
          clear hnew hS s0 fd
          go_wp2_with fail
          go_roundw
          case rel => exact ⟨k + 1, _, by omega, by simp, HNEW.out⟩
          case measure => simp [intOf]; omega
        · obtain rfl : k = lb := by omega
          have k1 : ¬ (k : Int) < (k : Int) := by omega
          have e : val (X.take (i + 1)) * val Y = val (X.take i) * val Y + x * 10 ^ i * val (Y.take k) := by
            rw [val_take_succ, ← Hx.out, Nat.add_mul, List.take_of_length_le (show Y.length ≤ k by rw [← Hlb.out]; exact Nat.le_refl _), Nat.mul_comm (10 ^ i) x]
          have e2 : 81 * (i * k + k) = 81 * ((i + 1) * k) := by congr 1; rw [Nat.add_mul, Nat.one_mul]
          rw [← e, e2] at HTk
          clear hT hxc hx
          go_wp2_with fail
          go_roundw
          case rel => exact ⟨i + 1, O, by omega, by simp, HTk.out⟩
          case measure => simp [intOf]; omega
    · obtain rfl : la = i := by omega
      obtain ⟨D, hD⟩ : ∃ D, D = 81 * (la * lb) := ⟨_, rfl⟩
      have hDb : D ≤ 81000000 := by
        have hbig : la * lb ≤ 1000 * 1000 := Nat.mul_le_mul (by omega) (by omega)
        omega
      obtain ⟨V, hV⟩ : ∃ V, V = val X * val Y := ⟨_, rfl⟩
      have HV := Lib.hid hV
      have hVlt : V < 10 ^ (la + lb) := by
        rw [hV, Nat.pow_add, Hla.out, Hlb.out]
        exact Nat.mul_lt_mul'' (val_lt X HDX.out) (val_lt Y HDY.out)
      have HVL := Lib.hid hVlt
      have hT0 : TC3 w ob n O V D 0 wr := ⟨HT.out.bel, HT.out.blk, HT.out.len, by rw [HT.out.v, hV, Hla.out, List.take_length], fun j hj => by omega, by have := HT.out.bd 0; omega, fun j _ => by have := HT.out.bd j; omega⟩
      have HT0 := Lib.hid hT0
      clear hD hV hVlt hT0 HT
      go_wp2_with fail
      go_loopw [8] (fun iv wq => ∃ (i : Nat) (O : List Nat), i + 1 ≤ n ∧ iv = .int .i64 i ∧ TC3 w ob n O V D i wq) (fun iv _ => n - (intOf iv).toNat)
      case atStart => exact ⟨0, O, by have := HN.out; omega, rfl, HT0.out⟩
      case round =>
        obtain ⟨i, O, hi, rfl, hT⟩ := hrel
        clear HT0
        have HTq := Lib.hid hT
        obtain ⟨p, hp⟩ : ∃ p, p = i + 1 := ⟨_, rfl⟩
        have Hp := Lib.hid hp
        have nb : n < 3000 := by have := HN.out; omega
        have w1'' : (i : Int) + 1 = (p : Int) := by omega
        have w1' : IntKind.i64.wrap (p : Int) = (p : Int) := IntWalk.i64_in _ (by omega)
        have i0 : (0 : Int) ≤ (i : Int) := by omega
        have i1 : (i : Int) < (n : Int) := by omega
        by_cases hlast : p < n
        · obtain ⟨o, ho⟩ : ∃ o, o = O.getD i 0 := ⟨_, rfl⟩
          obtain ⟨o1, ho1⟩ : ∃ o1, o1 = O.getD p 0 := ⟨_, rfl⟩
          obtain ⟨d, hd⟩ : ∃ d, d = o / 10 := ⟨_, rfl⟩
          obtain ⟨z, hz⟩ : ∃ z, z = o1 + d := ⟨_, rfl⟩
          obtain ⟨r, hr⟩ : ∃ r, r = o % 10 := ⟨_, rfl⟩
          have b0 : o ≤ 2 * D := by rw [ho]; exact hT.at_
          have b1 : o1 ≤ D := by rw [ho1]; exact hT.hi p (by omega)
          have c0 : wr.cell? ⟨ob, i, none⟩ = some (.int .i64 ((o : Nat) : Int)) := by rw [ho]; exact hT.blk.cell (vns_at (by rw [hT.len]; omega))
          have c1 : wr.cell? ⟨ob, p, none⟩ = some (.int .i64 ((o1 : Nat) : Int)) := by rw [ho1]; exact hT.blk.cell (vns_at (by rw [hT.len]; exact hlast))
          have fo := hT.blk.free p
          have p0 : (0 : Int) ≤ (p : Int) := by omega
          have p1 : (p : Int) < (n : Int) := by omega
          have q1 : (o : Int).tdiv 10 = (d : Int) := by rw [Int.tdiv_eq_ediv_of_nonneg (Int.natCast_nonneg _)]; omega
          have q2 : (o : Int) / 10 = (d : Int) := by omega
          have q3 : IntKind.i64.wrap (d : Int) = (d : Int) := IntWalk.i64_in _ (by omega)
          have q4 : (o1 : Int) + (d : Int) = (z : Int) := by omega
          have q5 : IntKind.i64.wrap (z : Int) = (z : Int) := IntWalk.i64_in _ (by omega)
          have r1 : (o : Int).tmod 10 = (r : Int) := by rw [Int.tmod_eq_emod_of_nonneg (Int.natCast_nonneg _)]; omega
          have r2 : (o : Int) % 10 = (r : Int) := by omega
          have r3 : IntKind.i64.wrap (r : Int) = (r : Int) := IntWalk.i64_in _ (by omega)
          have HA := Lib.hid (⟨ho, ho1, hd, hz, hr⟩ : o = O.getD i 0 ∧ o1 = O.getD p 0 ∧ d = o / 10 ∧ z = o1 + d ∧ r = o % 10)
          clear ho ho1 hd hz hr hp
          go_upto_region 12 with fail
          refine wp_calm_any ?_
          refine wp_region_but (z := 15) (fun w' : World => w'.cell? ⟨ob, p, none⟩ = some (.int .i64 ((o1 : Nat) : Int)) ∧ w'.cell? ⟨ob, i, none⟩ = some (.int .i64 ((o : Nat) : Int))) (by kernel_rfl) ?_
          have hS : (fun w' : World => w'.cell? ⟨ob, p, none⟩ = some (.int .i64 ((o1 : Nat) : Int)) ∧ w'.cell? ⟨ob, i, none⟩ = some (.int .i64 ((o : Nat) : Int))) wr.drew := ⟨c1, c0⟩
          have HBd := Lib.hid (show Blk wr.drew ob 3 (vns O) ∧ Below w.heap.size w wr.drew from ⟨hT.blk, hT.bel.drew⟩)
          have fd : wr.drew.frozen? ⟨ob, p, none⟩ = false := fo
          generalize wr.drew = wd at hS HBd fd ⊢
          refine AnyBut.take (i := 0) (v := ?_) rfl (by kernel_rfl) (by kernel_rfl) (by kernel_rfl) (by kernel_rfl) (fun _ _ _ h => h) (Or.inl ⟨by rfl, ?_⟩) hS ?_
          rotate_left
          · (intro wq hq; go_simp; try with_reducible rfl)
          try simp only [Act.put, List.setIfInBounds_toArray, List.set_cons_zero, List.set_cons_succ, List.getElem_toArray, List.getElem_cons_zero, List.getElem_cons_succ]
          refine AnyBut.take (i := 1) (v := ?_) rfl (by kernel_rfl) (by kernel_rfl) (by kernel_rfl) (by kernel_rfl) (fun _ _ _ h => h) (Or.inl ⟨by rfl, ?_⟩) hS ?_
          rotate_left
          · (intro wq hq; go_simp; try with_reducible rfl)
          try simp only [Act.put, List.setIfInBounds_toArray, List.set_cons_zero, List.set_cons_succ, List.getElem_toArray, List.getElem_cons_zero, List.getElem_cons_succ]
          refine AnyBut.take (i := 2) (v := ?_) rfl (by kernel_rfl) (by kernel_rfl) (by kernel_rfl) (by kernel_rfl) (fun _ _ _ h => h) (Or.inl ⟨by rfl, ?_⟩) hS ?_
          rotate_left
          · (intro wq hq; go_simp; try with_reducible rfl)
          try simp only [Act.put, List.setIfInBounds_toArray, List.set_cons_zero, List.set_cons_succ, List.getElem_toArray, List.getElem_cons_zero, List.getElem_cons_succ]
          refine AnyBut.take (i := 3) (v := ?_) rfl (by kernel_rfl) (by kernel_rfl) (by kernel_rfl) (by kernel_rfl) (fun _ _ _ h => h) (Or.inl ⟨by rfl, ?_⟩) hS ?_
          rotate_left
          · (intro wq hq; go_simp; try with_reducible rfl)
          try simp only [Act.put, List.setIfInBounds_toArray, List.set_cons_zero, List.set_cons_succ, List.getElem_toArray, List.getElem_cons_zero, List.getElem_cons_succ]
          refine AnyBut.take (i := 4) (v := ?_) rfl (by kernel_rfl) (by kernel_rfl) (by kernel_rfl) (by kernel_rfl) (fun _ _ _ h => h) (Or.inl ⟨by rfl, ?_⟩) hS ?_
          rotate_left
          · (intro wq hq; go_simp; try with_reducible rfl)
          try simp only [Act.put, List.setIfInBounds_toArray, List.set_cons_zero, List.set_cons_succ, List.getElem_toArray, List.getElem_cons_zero, List.getElem_cons_succ]
          refine AnyBut.take (i := 5) (v := ?_) rfl (by kernel_rfl) (by kernel_rfl) (by kernel_rfl) (by kernel_rfl) (fun _ _ _ h => h) (Or.inl ⟨by rfl, ?_⟩) hS ?_
          rotate_left
          · (intro wq hq; go_simp; try with_reducible rfl)
          try simp only [Act.put, List.setIfInBounds_toArray, List.set_cons_zero, List.set_cons_succ, List.getElem_toArray, List.getElem_cons_zero, List.getElem_cons_succ]
          refine AnyBut.take (i := 6) (v := ?_) rfl (by kernel_rfl) (by kernel_rfl) (by kernel_rfl) (by kernel_rfl) (fun _ _ _ h => h) (Or.inl ⟨by rfl, ?_⟩) hS ?_
          rotate_left
          · (intro wq hq; go_simp; try with_reducible rfl)
          try simp only [Act.put, List.setIfInBounds_toArray, List.set_cons_zero, List.set_cons_succ, List.getElem_toArray, List.getElem_cons_zero, List.getElem_cons_succ]
          refine AnyBut.take (i := 7) (v := ?_) rfl (by kernel_rfl) (by kernel_rfl) (by kernel_rfl) (by kernel_rfl) (fun _ _ _ h => h) (Or.inl ⟨by rfl, ?_⟩) hS ?_
          rotate_left
          · (intro wq hq; obtain ⟨hq0, hq1⟩ := hq; go_simp; try with_reducible rfl)
          try simp only [Act.put, List.setIfInBounds_toArray, List.set_cons_zero, List.set_cons_succ, List.getElem_toArray, List.getElem_cons_zero, List.getElem_cons_succ]
          refine AnyBut.take (i := 8) (v := ?_) rfl (by kernel_rfl) (by kernel_rfl) (by kernel_rfl) (by kernel_rfl) (fun _ _ _ h => h) (Or.inl ⟨by rfl, ?_⟩) hS ?_
          rotate_left
          · (intro wq hq; go_simp; try with_reducible rfl)
          try simp only [Act.put, List.setIfInBounds_toArray, List.set_cons_zero, List.set_cons_succ, List.getElem_toArray, List.getElem_cons_zero, List.getElem_cons_succ]
          refine AnyBut.take (i := 9) (v := ?_) rfl (by kernel_rfl) (by kernel_rfl) (by kernel_rfl) (by kernel_rfl) (fun _ _ _ h => h) (Or.inl ⟨by rfl, ?_⟩) hS ?_
          rotate_left
          · (intro wq hq; go_simp; try with_reducible rfl)
          try simp only [Act.put, List.setIfInBounds_toArray, List.set_cons_zero, List.set_cons_succ, List.getElem_toArray, List.getElem_cons_zero, List.getElem_cons_succ]
          refine AnyBut.take (i := 10) (v := ?_) rfl (by kernel_rfl) (by kernel_rfl) (by kernel_rfl) (by kernel_rfl) (fun _ _ _ h => h) (Or.inl ⟨by rfl, ?_⟩) hS ?_
          rotate_left
          · (intro wq hq; go_simp; try with_reducible rfl)
          try simp only [Act.put, List.setIfInBounds_toArray, List.set_cons_zero, List.set_cons_succ, List.getElem_toArray, List.getElem_cons_zero, List.getElem_cons_succ]
          refine AnyBut.take (i := 11) (v := ?_) rfl (by kernel_rfl) (by kernel_rfl) (by kernel_rfl) (by kernel_rfl) (fun _ _ _ h => h) (Or.inl ⟨by rfl, ?_⟩) hS ?_
          rotate_left
          · (intro wq hq; obtain ⟨hq0, hq1⟩ := hq; go_simp; try with_reducible rfl)
          try simp only [Act.put, List.setIfInBounds_toArray, List.set_cons_zero, List.set_cons_succ, List.getElem_toArray, List.getElem_cons_zero, List.getElem_cons_succ]
          refine AnyBut.take (i := 12) (v := ?_) rfl (by kernel_rfl) (by kernel_rfl) (by kernel_rfl) (by kernel_rfl) (fun _ _ _ h => h) (Or.inl ⟨by rfl, ?_⟩) hS ?_
          rotate_left
          · (intro wq hq; go_simp; try with_reducible rfl)
          try simp only [Act.put, List.setIfInBounds_toArray, List.set_cons_zero, List.set_cons_succ, List.getElem_toArray, List.getElem_cons_zero, List.getElem_cons_succ]
          refine AnyBut.take (i := 13) (v := ?_) rfl (by kernel_rfl) (by kernel_rfl) (by kernel_rfl) (by kernel_rfl) (fun _ _ _ h => h) (Or.inl ⟨by rfl, ?_⟩) hS ?_
          rotate_left
          · (intro wq hq; go_simp; try with_reducible rfl)
          try simp only [Act.put, List.setIfInBounds_toArray, List.set_cons_zero, List.set_cons_succ, List.getElem_toArray, List.getElem_cons_zero, List.getElem_cons_succ]
          refine AnyBut.take (i := 14) (v := ?_) rfl (by kernel_rfl) (by kernel_rfl) (by kernel_rfl) (by kernel_rfl) (fun _ _ _ h => h) (Or.inl ⟨by rfl, ?_⟩) hS ?_
          rotate_left
          · (intro wq hq; go_simp; try with_reducible rfl)
          try simp only [Act.put, List.setIfInBounds_toArray, List.set_cons_zero, List.set_cons_succ, List.getElem_toArray, List.getElem_cons_zero, List.getElem_cons_succ]
          have s0 := hS.1
          refine AnyBut.gone (i := 15) (by kernel_rfl) rfl (by rfl) (fun K hK => ?_)
          go_simp
          refine hK _ _ (fun h => absurd rfl h) ?_
          clear hK K
          refine AnyBut.done (by kernel_rfl) ?_ _
          dsimp only [Exit.then]
          have hB2 : Blk (wd.setCell ⟨ob, p, none⟩ (.int .i64 ((z : Nat) : Int))) ob 3 (vns (O.set p z)) := by
            have := HBd.out.1.set p (.int .i64 ((z : Nat) : Int)); rwa [vns_set] at this
          have hb2 : Below w.heap.size w (wd.setCell ⟨ob, p, none⟩ (.int .i64 ((z : Nat) : Int))) := HBd.out.2.setCell (by rw [Hob.out]; exact Nat.le_refl _) _
          have hlen2 : (O.set p z).length = n := by rw [List.length_set]; exact HTq.out.len
          have hget2 : (O.set p z).getD i 0 = o := by
            have : (O.set p z).getD i 0 = O.getD i 0 := by
              have hne : p ≠ i := by have := Hp.out; omega
              simp [List.getD, List.getElem?_set, hne]
            rw [this]; exact HA.out.1.symm
          have c0 : (wd.setCell ⟨ob, p, none⟩ (.int .i64 ((z : Nat) : Int))).cell? ⟨ob, i, none⟩ = some (.int .i64 ((o : Nat) : Int)) := by
            rw [← hget2]; exact hB2.cell (vns_at (by rw [hlen2]; omega))
          have fi := hB2.free i
          clear hS s0 fd HBd c1 fo
          have HB2 := Lib.hid hB2
          have Hb2 := Lib.hid hb2
          have HG2 := Lib.hid hget2
          have HL2 := Lib.hid hlen2
          clear hB2 hb2 hget2 hlen2
          generalize wd.setCell ⟨ob, p, none⟩ (.int .i64 ((z : Nat) : Int)) = W2 at HB2 Hb2 c0 fi ⊢
          go_wp2_with fail
          go_roundw
          case rel =>
            have hA := HA.out
            have hT := HTq.out
            have e1 : (O.set p z) = O.set p (O.getD p 0 + d) := by rw [hA.2.2.2.1, hA.2.1]
            have v1 := val_set O p d (by rw [hT.len]; exact hlast)
            have v2 := val_put (O.set p z) i r (by rw [HL2.out]; omega)
            rw [HG2.out, e1, v1, hT.v, Hp.out, Nat.pow_succ] at v2
            have hr : r = o % 10 := hA.2.2.2.2
            have hd : d = o / 10 := hA.2.2.1
            refine ⟨p, (O.set p z).set i r, by omega, by simp, Hb2.out.setCell (by rw [Hob.out]; exact Nat.le_refl _) _, ?_, by rw [List.length_set]; exact HL2.out, ?_, fun j hj => ?_, ?_, fun j hj => ?_⟩
            · have := HB2.out.set i (.int .i64 ((r : Nat) : Int)); rwa [vns_set] at this
            · rw [e1, Hp.out]
              have e3 : o * 10 ^ i = d * (10 ^ i * 10) + r * 10 ^ i := by
                rw [Nat.mul_comm (10 ^ i) 10, ← Nat.mul_assoc, ← Nat.add_mul]; congr 1; omega
              omega
            · by_cases e : i = j
              · subst e
                rw [getD_eq _ _ _ (by rw [HL2.out]; omega)]; omega
              · rw [getD_ne _ _ _ _ e, getD_ne _ _ _ _ (by have := Hp.out; omega)]
                exact hT.lo j (by have := Hp.out; omega)
            · rw [getD_ne _ _ _ _ (by have := Hp.out; omega), getD_eq _ _ _ (by rw [hT.len]; exact hlast)]
              have := hA.2.2.2.1
              omega
            · rw [getD_ne _ _ _ _ (by have := Hp.out; omega), getD_ne _ _ _ _ (by omega)]
              exact hT.hi j (by have := Hp.out; omega)
          case measure => simp [intOf]; omega
        · have hpn : p = n := by have := Hp.out; omega
          have p1 : ¬ (p : Int) < (n : Int) := by omega
          have hdig : Dig O := by
            intro x hx
            obtain ⟨j, hj, e⟩ := List.getElem_of_mem hx
            have e2 : O.getD j 0 = x := by rw [← e]; simp [List.getD, hj]
            rw [← e2]
            by_cases hji : j < i
            · exact hT.lo j hji
            · have hji2 : j = i := by have := hT.len; have := Hp.out; omega
              subst hji2
              have h1 := val_ge O j hj
              have h2 := HVL.out
              rw [hT.v] at h1
              have h3 : j = la + lb := by have := HN.out; have := Hp.out; omega
              rw [← h3] at h2
              refine Nat.lt_of_not_le fun h10 => ?_
              have h4 : 1 * 10 ^ j ≤ O.getD j 0 * 10 ^ j := Nat.mul_le_mul_right _ (by omega)
              omega
          have HDg := Lib.hid hdig
          clear hT hdig hp
          go_wp2_with fail
          go_ret
          exact ⟨by rw [Hob.out]; rfl, O, by rw [← Hob.out]; exact HTq.out.blk, HTq.out.len, HDg.out, by rw [HTq.out.v, HV.out], HTq.out.bel⟩
end Go.Proofs.YtjbjkddgefiicaaDoor
