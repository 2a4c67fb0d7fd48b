/- What merkle.joined returns: a text of two hashes. -/
import Derived.Test.YtihbmahjdmfjpaaDoorFa
import Derived.Test.YtihbmahjdmfjpaaDoorRg
import Derived.Outline
import Derived.StillTailTactics
namespace Go.Proofs.YtihbmahjdmfjpaaDoor
open Go.RowKit
set_option linter.unusedVariables false
set_option linter.unusedSimpArgs false
set_option maxRecDepth 100000
def Zt64 : List (BitVec 8) := List.replicate 64 0
theorem zero57 : ∀ w, (zeroValue 57).run Tryd.prog w = .ok (.agg (vbs Zt64).toArray) w := fun _ => by kernel_rfl
theorem zero25 : ∀ w, (zeroValue 25).run Tryd.prog w = .ok (.agg (vbs Z32).toArray) w := fun _ => by kernel_rfl
theorem info57 : (Tryd.prog.info? 57).map (·.size) = some 64 := by kernel_rfl
theorem info25 : (Tryd.prog.info? 25).map (·.size) = some 32 := by kernel_rfl
theorem i57 {vs : List Value} (h : vs.length = 64) : (Tryd.prog.info? 57).map (·.size) = some vs.length := by rw [h]; exact info57
theorem i25' {vs : List Value} (h : vs.length = 32) : (Tryd.prog.info? 25).map (·.size) = some vs.length := by rw [h]; exact info25
theorem i57a {E : List (BitVec 8)} (h : E.length = 64) : (Tryd.prog.info? 57).map (·.size) = some (vbs E).toArray.size := info_arr (i57 (by rw [vbs_len]; exact h))
theorem i25a {E : List (BitVec 8)} (h : E.length = 32) : (Tryd.prog.info? 25).map (·.size) = some (vbs E).toArray.size := info_arr (i25' (by rw [vbs_len]; exact h))
theorem wp_copy_splice {P : Program} {o : Oper} {a : Act} {w : World} {K : Act → World → Prop} {Q : Exit → Act → World → Prop} (hgd : o.guard = none) (d s : Operand) (dT sT : TypeId)
    (ho : o.op = .call { callee := .builtin .copy, args := #[d, s], argTypes := #[dT, sT] }) (elem : TypeId) (hu : P.underlying dT = some (.slice elem)) (hsz : (P.info? elem).map (·.size) = some 1)
    (dp sp : Option Addr) (dLen dCap sLen sCap : Nat) (hd : a.eval d = .slice dp dLen dCap) (hs : a.eval s = .slice sp sLen sCap)
    (g off : Nat) (cur : List Value) (t : TypeId) (hg : w.heap[g]? = some (.cells cur.toArray t (0, 0))) (cs : List Value) (hn : cs.length = Nat.min sLen dLen)
    (hpos : 0 < cs.length → dp = some ⟨g, off, none⟩ ∧ ∃ ad, sp = some ad ∧ ∀ j v, cs[j]? = some v → w.cell? (ad.add j) = some v)
    (hfit : off + cs.length ≤ cur.length) (h1 : ∀ v ∈ cs, v.oneCell' = true) (B : Nat) (w0 : World) (hb : Below B w0 w) (hBg : B ≤ g)
    (h : ∀ w', Hid (w'.heap[g]? = some (.cells (splice cur off cs).toArray t (0, 0))) → Below B w0 w' → K (a.put o.dst (goInt cs.length)) w') : Oper.wp P o a w K Q := by
  have := step_copy_splice (Q := Q) (ops := #[]) (E := True) hgd d s dT sT ho elem hu hsz dp sp dLen dCap sLen sCap hd hs g off cur t hg cs hn hpos hfit h1 B w0 hb hBg h
  rwa [if_pos (by simp [Region.wanted, hgd])] at this
theorem splice_two (a b : List (BitVec 8)) (ha : a.length = 32) (hb : b.length = 32) : splice (splice (vbs Zt64) 0 (vbs a)) 32 (vbs b) = vbs (a ++ b) := by
  have e : Zt64.drop 32 = Z32 := by rfl
  have h1 : splice (vbs Zt64) 0 (vbs a) = vbs (a ++ Z32) := by
    unfold splice
    rw [vbs_len, ha, List.take_zero, List.nil_append]
    unfold vbs
    rw [← List.map_drop, e, List.map_append]
  rw [h1]
  unfold splice vbs
  rw [List.length_map, hb, ← List.map_take, ← List.map_drop, List.take_append_of_le_length (by omega), List.take_of_length_le (by omega), List.drop_eq_nil_of_le (by rw [List.length_append, ha]; exact Nat.le_refl _)]
  simp
theorem sl57_lo (b : Nat) (w : World) : (Instr.sliceAt 57 (.pointer (some ⟨b, 0, none⟩)) none (some (.int .i64 32)) (some (.int .i64 32))).run Tryd.prog w = .ok (.slice (some ⟨b, 0, none⟩) 32 32) w := by
  have hl : Tryd.prog.arrayLen 57 = 64 := by kernel_rfl
  have hs : (sizeOf (Tryd.prog.elem 57)).run Tryd.prog w = .ok 1 w := by kernel_rfl
  rw [run_sliceAt_array_hm w 57 _ (by kernel_rfl) .i64 .i64 32 32 (by omega) (by omega) (by rw [hl]; omega), hs]
  rfl
theorem sl57_hi (b : Nat) (w : World) : (Instr.sliceAt 57 (.pointer (some ⟨b, 0, none⟩)) (some (.int .i64 32)) (some (.int .i64 64)) (some (.int .i64 64))).run Tryd.prog w = .ok (.slice (some ⟨b, 32, none⟩) 32 32) w := by
  have hl : Tryd.prog.arrayLen 57 = 64 := by kernel_rfl
  have hs : (sizeOf (Tryd.prog.elem 57)).run Tryd.prog w = .ok 1 w := by kernel_rfl
  rw [run_sliceAt_array_lhm w 57 _ (by kernel_rfl) .i64 .i64 .i64 32 64 64 (by omega) (by omega) (by omega) (by rw [hl]; omega), hs]
  rfl
theorem sl57_all (b o : Nat) (w : World) : (Instr.sliceAt 57 (.pointer (some ⟨b, o, none⟩)) none none none).run Tryd.prog w = .ok (.slice (some ⟨b, o, none⟩) 64 64) w := by
  have hl : Tryd.prog.arrayLen 57 = 64 := by kernel_rfl
  have hs : (sizeOf (Tryd.prog.elem 57)).run Tryd.prog w = .ok 1 w := by kernel_rfl
  rw [run_sliceAt_array_all w 57 _ (by kernel_rfl), hs, hl]
  simp [Result.andThen, slicedAt, Addr.add_mid]
theorem sl25_all (b o : Nat) (w : World) : (Instr.sliceAt 25 (.pointer (some ⟨b, o, none⟩)) none none none).run Tryd.prog w = .ok (.slice (some ⟨b, o, none⟩) 32 32) w := by
  have hl : Tryd.prog.arrayLen 25 = 32 := by kernel_rfl
  have hs : (sizeOf (Tryd.prog.elem 25)).run Tryd.prog w = .ok 1 w := by kernel_rfl
  rw [run_sliceAt_array_all w 25 _ (by kernel_rfl), hs, hl]
  simp [Result.andThen, slicedAt, Addr.add_mid]
/-- What a function answers that makes memory and leaves all that was there. -/
def VPost (v : Value) (w : World) (e : Ending) (w' : World) : Prop := e = .returned v ∧ Below w.heap.size w w'
theorem src_blk {w : World} {b T : Nat} {R : List (BitVec 8)} (h : Blk w b T (vbs R)) : ∀ j v, (vbs R)[j]? = some v → w.cell? ((⟨b, 0, none⟩ : Addr).add j) = some v := fun j v hj => by
  rw [Addr.add_mid, Nat.zero_add]; exact h.cell hj
set_option maxHeartbeats 2000000 in
theorem mjoined_any (a b : List (BitVec 8)) (ha : a.length = 32) (hb : b.length = 32) (w : World) : Calls Tryd.prog 39 #[.agg (vbs a).toArray, .agg (vbs b).toArray] w (VPost (.agg (vbs (a ++ b)).toArray) w) := by
  have hz := zero57
  have HX := Lib.hid (splice_two a b ha hb)
  have HA := Lib.hid ha
  have HB := Lib.hid hb
  have s1 := sl57_lo
  have s2 := sl57_hi
  have s3 := sl25_all
  clear ha hb
  go_enter Tryd.func39, Tryd.ntmps39
  go_upto_region 2 with fail
  have hbel : Below w.heap.size w ((((w.alloc (.cells (vbs a).toArray 25)).alloc (.cells (vbs b).toArray 25)).alloc (.cells (vbs Zt64).toArray 57)).alloc (.cells (vbs Zt64).toArray 57)) := ((((Below.refl _ _).alloc (Nat.le_refl _) _).alloc (by simp) _).alloc (by simp; omega) _).alloc (by simp; omega) _
  have b0 : Blk ((((w.alloc (.cells (vbs a).toArray 25)).alloc (.cells (vbs b).toArray 25)).alloc (.cells (vbs Zt64).toArray 57)).alloc (.cells (vbs Zt64).toArray 57)) w.heap.size 25 (vbs a) := (((Blk.new w 25 (vbs a).toArray).alloc _).alloc _).alloc _
  have b1 : Blk ((((w.alloc (.cells (vbs a).toArray 25)).alloc (.cells (vbs b).toArray 25)).alloc (.cells (vbs Zt64).toArray 57)).alloc (.cells (vbs Zt64).toArray 57)) (w.heap.size + 1) 25 (vbs b) := by
    have := (((Blk.new (w.alloc (.cells (vbs a).toArray 25)) 25 (vbs b).toArray).alloc (.cells (vbs Zt64).toArray 57)).alloc (.cells (vbs Zt64).toArray 57))
    simpa using this
  have b2 : Blk ((((w.alloc (.cells (vbs a).toArray 25)).alloc (.cells (vbs b).toArray 25)).alloc (.cells (vbs Zt64).toArray 57)).alloc (.cells (vbs Zt64).toArray 57)) (w.heap.size + 2) 57 (vbs Zt64) := by
    have := (Blk.new ((w.alloc (.cells (vbs a).toArray 25)).alloc (.cells (vbs b).toArray 25)) 57 (vbs Zt64).toArray).alloc (.cells (vbs Zt64).toArray 57)
    simpa using this
  have b3 : Blk ((((w.alloc (.cells (vbs a).toArray 25)).alloc (.cells (vbs b).toArray 25)).alloc (.cells (vbs Zt64).toArray 57)).alloc (.cells (vbs Zt64).toArray 57)) (w.heap.size + 3) 57 (vbs Zt64) := by
    have := Blk.new (((w.alloc (.cells (vbs a).toArray 25)).alloc (.cells (vbs b).toArray 25)).alloc (.cells (vbs Zt64).toArray 57)) 57 (vbs Zt64).toArray
    simpa using this
  generalize ((((w.alloc (.cells (vbs a).toArray 25)).alloc (.cells (vbs b).toArray 25)).alloc (.cells (vbs Zt64).toArray 57)).alloc (.cells (vbs Zt64).toArray 57)) = W at hbel b0 b1 b2 b3 ⊢
  have c1 : Hid ((vbs a).length = Nat.min 32 32) := show (vbs a).length = 32 by rw [vbs_len]; exact HA.out
  have c2 : Hid ((vbs b).length = Nat.min 32 32) := show (vbs b).length = 32 by rw [vbs_len]; exact HB.out
  have d1 : Hid (0 + (vbs a).length ≤ (vbs Zt64).length) := show 0 + (vbs a).length ≤ (vbs Zt64).length by rw [vbs_len, HA.out]; decide
  have d2 : Hid (32 + (vbs b).length ≤ (splice (vbs Zt64) 0 (vbs a)).length) := show 32 + (vbs b).length ≤ (splice (vbs Zt64) 0 (vbs a)).length by
    rw [length_splice _ _ _ d1.out, vbs_len, HB.out]; decide
  have H0 := Lib.hid b0
  have H1 := Lib.hid b1
  have H2 := Lib.hid b2
  have H3 := Lib.hid b3
  have HW := Lib.hid hbel
  have HN : Hid (∀ w' : World, Below (w.heap.size + 3) W.drew w' → Below (w.heap.size + 3) W w') := fun w' h => ⟨h.os, h.tape, h.output, h.size, h.block⟩
  clear b0 b1 b2 b3 hbel hz
  refine wp_region_but (z := 999) (fun _ => True) (by kernel_rfl) ?_
  have hS : (fun _ => True) W.drew := trivial
  refine AnyBut.takeE (i := 0) (v := ?_) rfl (by kernel_rfl) (by kernel_rfl) (by kernel_rfl) (by kernel_rfl) (fun _ _ _ h => h) (Or.inl ⟨by rfl, ?_⟩) hS ?_
  rotate_left
  · (intro wq hq; go_simp; try with_reducible rfl)
  try simp only [Act.put, List.setIfInBounds_toArray, List.set_cons_zero, List.set_cons_succ, List.getElem_toArray, List.getElem_cons_zero, List.getElem_cons_succ]
  refine AnyBut.takeE (i := 1) (v := ?_) rfl (by kernel_rfl) (by kernel_rfl) (by kernel_rfl) (by kernel_rfl) (fun _ _ _ h => h) (Or.inl ⟨by rfl, ?_⟩) hS ?_
  rotate_left
  · (intro wq hq; go_simp; try with_reducible rfl)
  try simp only [Act.put, List.setIfInBounds_toArray, List.set_cons_zero, List.set_cons_succ, List.getElem_toArray, List.getElem_cons_zero, List.getElem_cons_succ]
  refine AnyBut.gone (i := 2) (by kernel_rfl) rfl (by rfl) (fun K hK => ?_)
  refine wp_copy_splice rfl (.tmp 6) (.tmp 7) 54 54 rfl 5 Tryd.underlying54 (by kernel_rfl) (some ⟨w.heap.size + 3, 0, none⟩) (some ⟨w.heap.size, 0, none⟩) 32 32 32 32 rfl rfl (w.heap.size + 3) 0 (vbs Zt64) 57 (show Blk W.drew _ _ _ from H3.out) (vbs a) c1.out (fun _ => ⟨rfl, _, rfl, src_blk (show Blk W.drew _ _ _ from H0.out)⟩) d1.out (vbs_one _) (w.heap.size + 3) W.drew (Below.refl _ _) (Nat.le_refl _) ?_
  intro W2 hg hb
  refine hK _ _ (fun _ => trivial) ?_
  clear hK K
  try simp only [Act.put, List.setIfInBounds_toArray, List.set_cons_zero, List.set_cons_succ, List.getElem_toArray, List.getElem_cons_zero, List.getElem_cons_succ]
  refine AnyBut.done (by kernel_rfl) ?_ _
  try dsimp only [Exit.then]
  have G2 : Blk W2 (w.heap.size + 3) 57 (splice (vbs Zt64) 0 (vbs a)) := hg
  have hbW := HN.out W2 hb
  have G1 := Lib.hid (H1.out.below hbW (by omega))
  have G3 := Lib.hid (H2.out.below hbW (by omega))
  have HB2 := Lib.hid (HW.out.trans (hbW.mono (by omega)))
  have HG2 := Lib.hid G2
  clear hg hb hbW G2 H0 H1 H2 H3 HW HN hS
  go_upto_region 3 with fail
  refine wp_region_but (z := 999) (fun _ => True) (by kernel_rfl) ?_
  have hS : (fun _ => True) W2.drew := trivial
  refine AnyBut.takeE (i := 0) (v := ?_) rfl (by kernel_rfl) (by kernel_rfl) (by kernel_rfl) (by kernel_rfl) (fun _ _ _ h => h) (Or.inl ⟨by rfl, ?_⟩) hS ?_
  rotate_left
  · (intro wq hq; go_simp; try with_reducible rfl)
  try simp only [Act.put, List.setIfInBounds_toArray, List.set_cons_zero, List.set_cons_succ, List.getElem_toArray, List.getElem_cons_zero, List.getElem_cons_succ]
  refine AnyBut.takeE (i := 1) (v := ?_) rfl (by kernel_rfl) (by kernel_rfl) (by kernel_rfl) (by kernel_rfl) (fun _ _ _ h => h) (Or.inl ⟨by rfl, ?_⟩) hS ?_
  rotate_left
  · (intro wq hq; go_simp; try with_reducible rfl)
  try simp only [Act.put, List.setIfInBounds_toArray, List.set_cons_zero, List.set_cons_succ, List.getElem_toArray, List.getElem_cons_zero, List.getElem_cons_succ]
  refine AnyBut.gone (i := 2) (by kernel_rfl) rfl (by rfl) (fun K hK => ?_)
  refine wp_copy_splice rfl (.tmp 9) (.tmp 10) 54 54 rfl 5 Tryd.underlying54 (by kernel_rfl) (some ⟨w.heap.size + 3, 32, none⟩) (some ⟨w.heap.size + 1, 0, none⟩) 32 32 32 32 rfl rfl (w.heap.size + 3) 32 (splice (vbs Zt64) 0 (vbs a)) 57 (show Blk W2.drew _ _ _ from HG2.out) (vbs b) c2.out (fun _ => ⟨rfl, _, rfl, src_blk (show Blk W2.drew _ _ _ from G1.out)⟩) d2.out (vbs_one _) (w.heap.size + 3) W2.drew (Below.refl _ _) (Nat.le_refl _) ?_
  intro W3 hg hb
  refine hK _ _ (fun _ => trivial) ?_
  clear hK K
  try simp only [Act.put, List.setIfInBounds_toArray, List.set_cons_zero, List.set_cons_succ, List.getElem_toArray, List.getElem_cons_zero, List.getElem_cons_succ]
  refine AnyBut.done (by kernel_rfl) ?_ _
  try dsimp only [Exit.then]
  rw [HX.out] at hg
  have hb' : Below (w.heap.size + 3) W2 W3 := ⟨hb.os, hb.tape, hb.output, hb.size, hb.block⟩
  have K3 : Blk W3 (w.heap.size + 3) 57 (vbs (a ++ b)) := hg
  have K2 := Lib.hid (G3.out.below hb' (by omega))
  have HB3 := Lib.hid (HB2.out.trans (hb'.mono (by omega)))
  have HLen : Hid ((a ++ b).length = 64) := show (a ++ b).length = 64 by rw [List.length_append, HA.out, HB.out]
  have KR := Lib.hid K3.range
  have KT : Hid (W3.there (w.heap.size + 2) 0 (vbs (a ++ b)).toArray.size) := there_arr (by have := K2.out.there; rw [vbs_len] at this; exact this) (by rw [vbs_len]; exact HLen.out)
  clear hg hb hb' K3 G1 G3 HB2 HG2 hS c1 c2 d1 d2
  go_wp2_with (first | (with_reducible refine wpList_load_mid rfl 57 (.tmp 5) rfl (w.heap.size + 3) 0 rfl (vbs (a ++ b)) _ KR.out Tryd.underlying57 rfl (i57 (by rw [vbs_len]; exact HLen.out)) ?_) | (with_reducible refine wpList_store_mid rfl 57 (.tmp 4) (.tmp 12) rfl (w.heap.size + 2) 0 (vbs (a ++ b)).toArray rfl rfl KT.out (i57a HLen.out) (all_oneCell_toArray (vbs_one _)) ?_))
  have hS := K2.out.setCells (vbs (a ++ b)) (by rw [vbs_len, vbs_len, HLen.out]; rfl)
  have hlv := run_loadVar_mid (P := Tryd.prog) (W3.setCells (w.heap.size + 2) 0 (vbs (a ++ b))) (w.heap.size + 2) 0 57 _ _ hS.range Tryd.underlying57 rfl (i57 (by rw [vbs_len]; exact HLen.out))
  exact bodyPost_ret (v := .agg (vbs (a ++ b)).toArray) (by simp [results, Tryd.results39, asAddr, Act.put, hlv]) rfl ⟨rfl, below_setCells (by omega) _ _ _ HB3.out⟩
end Go.Proofs.YtihbmahjdmfjpaaDoor
