/- What merkle.above returns: the hashes of texts. -/
import Derived.Test.YtihbmahjdmfjpaaDoorFf
import Derived.Outline
import Derived.StillTailTactics
namespace Go.Proofs.YtihbmahjdmfjpaaDoor
open Go.RowKit
set_option linter.unusedVariables false
set_option linter.unusedSimpArgs false
set_option maxRecDepth 100000
variable {tw : List (BitVec 8) → List (BitVec 8)}
theorem wpList_appF {t e s bytes : Nat} {z : Value} (ht : Tryd.prog.underlying t = some (.slice e)) (hin : (Tryd.prog.info? e).map (fun i => (i.zero, i.size, i.bytes)) = some (some z, s, bytes)) (hz : z.cells.size = s) (hs : 0 < s) (hby : bytes ≤ 100)
    {w : World} {ops : Array Oper} {rest : List Oper} {o : Oper} {a : Act} {Q : Exit → Act → World → Prop} (hgd : o.guard = none) (d y : Operand) (ho : o.op = .call { callee := .builtin .append, args := #[d, y], argTypes := #[t, t] }) (hty : o.type = t)
    (B : Nat) (v : Value) (L : List (List (BitVec 8))) (hd : a.eval d = v) (h : OF e s w B v L) (g T c : Nat) (x : List (BitVec 8)) (hy : a.eval y = .slice (some ⟨g, 0, none⟩) 1 c) (hx : x.length = s) (hg : Blk w g T (vbs x)) (hl : L.length ≤ 1000000) (hB : B ≤ w.heap.size)
    (hk : ∀ v' w', OF e s w' B v' (L ++ [x]) → w.grownBy w' v.ownBlock → wpList Tryd.prog ops Q rest (a.put o.dst v') w') : wpList Tryd.prog ops Q (o :: rest) a w :=
  wpList_plain hgd fun _ hK => wp_appF ht hin hz hs hby d y ho hty B v L hd h g T c x hy hx hg hl hB fun v' w' h1 h2 => hK _ _ (hk v' w' h1 h2)
theorem wpList_rows {o : Oper} {a : Act} {w : World} {ops : Array Oper} {rest : List Oper} {Q : Exit → Act → World → Prop} (hgd : o.guard = none) (t e s : Nat) (hs : 0 < s) (parts : Array (Nat × Operand)) (L : List (List (BitVec 8))) (hL : LenN s L) (hpos : 0 < L.length) (hsm : L.length * s ≤ 2 ^ 24)
    (ho : o.op = .buildSlice t L.length parts) (hu : Tryd.prog.underlying t = some (.slice e)) (hsz : (Tryd.prog.info? e).map (·.size) = some s) (hz : ((Tryd.prog.info? e).bind (·.zero)).isSome = true)
    (hev : (parts.toList.map fun (i, x) => (i, a.eval x)) = (L.zipIdx 0).map fun x => (x.2, Value.agg (vbs x.1).toArray))
    (h : wpList Tryd.prog ops Q rest (a.put o.dst (.slice (some ⟨w.heap.size, 0, none⟩) L.length L.length)) (w.alloc (.cells (vbs L.flatten).toArray e))) : wpList Tryd.prog ops Q (o :: rest) a w :=
  wpList_plain hgd fun _ hK => wp_rows t e s hs parts L hL hpos hsm ho hu hsz hz hev (hK _ _ h)
theorem z25 : ((Tryd.prog.info? 25).bind (·.zero)).isSome = true := by kernel_rfl
theorem z57 : ((Tryd.prog.info? 57).bind (·.zero)).isSome = true := by kernel_rfl
theorem blk_laidT (w : World) (T : TypeId) {Z X : List (BitVec 8)} (h : X.length = Z.length) : Blk ((w.alloc (.cells (vbs Z).toArray T)).setCells w.heap.size 0 (vbs X)) w.heap.size T (vbs X) :=
  (Blk.new w T (vbs Z).toArray).setCells _ (by rw [vbs_len, h, List.toList_toArray, vbs_len])
theorem below_laidT (w : World) (T : TypeId) (Z X : List (BitVec 8)) : Below w.heap.size w ((w.alloc (.cells (vbs Z).toArray T)).setCells w.heap.size 0 (vbs X)) :=
  below_setCells (Nat.le_refl _) _ _ _ ((Below.refl _ _).alloc (Nat.le_refl _) _)
theorem there_newT (w : World) (T : TypeId) {Z X : List (BitVec 8)} (h : X.length = Z.length) : (w.alloc (.cells (vbs Z).toArray T)).there w.heap.size 0 (vbs X).toArray.size := by
  have := (Blk.new w T (vbs Z).toArray).there
  rw [List.toList_toArray, vbs_len, ← h] at this
  exact there_arr this (vbs_len X)
def RelA (tw : List (BitVec 8) → List (BitVec 8)) (ts : List (List (BitVec 8))) (n : Nat) (w : World) (v i : Value) (wr : World) : Prop :=
  ∃ k : Nat, k ≤ n ∧ i = .int .i64 (k : Int) ∧ OF 25 32 wr w.heap.size v ((ts.take k).map tw) ∧ Below w.heap.size w wr
theorem take_map_succ (tw : List (BitVec 8) → List (BitVec 8)) (ts : List (List (BitVec 8))) (k : Nat) (hk : k < ts.length) : (ts.take (k + 1)).map tw = (ts.take k).map tw ++ [tw (ts.getD k [])] := by
  rw [List.take_succ_eq_append_getElem hk, List.map_append]
  simp [List.getD, hk]
set_option maxHeartbeats 2000000 in
theorem above_any (T : TwC tw) (A : Option Addr) (n c : Nat) (ts : List (List (BitVec 8))) (w : World) (hG : Glob w) (hL : LenN 64 ts) (hn : ts.length = n) (hR : Rd w w.heap.size A ts.flatten) (hn1 : n ≤ 100000) :
    Calls Tryd.prog 47 #[.slice A n c] w (FPost 25 32 (ts.map tw) w) := by
  have HT := Lib.hid T
  have HG := Lib.hid hG
  have HL := Lib.hid hL
  have HN := Lib.hid hn
  have HR := Lib.hid hR
  have hz := zero57
  clear T hG hL hn hR
  go_enter Tryd.func47, Tryd.ntmps47
  go_wp2_with fail
  go_loopw [3, 8] (fun v i wr => RelA tw ts n w v i wr) (fun _ i _ => (n - intOf i).toNat)
  case atStart => exact ⟨0, by omega, rfl, OF.nil _ _ _ _, Below.refl _ _⟩
  case round =>
    obtain ⟨k, hk, rfl, hO, hB⟩ := hrel
    by_cases hlt : k < n
    · have hlt' : (k : Int) < (n : Int) := by omega
      obtain ⟨b, o, rfl, hb, hrg⟩ := HR.out.row (by omega) HL.out (j := k) (by have := HN.out; omega)
      obtain ⟨X, hX⟩ : ∃ X, X = ts.getD k [] := ⟨_, rfl⟩
      have hX64 : X.length = 64 := by rw [hX]; exact HL.out.at (by have := HN.out; omega)
      have rX : wr.rangeAt b (o + k * 64) (vbs X) := fun j u hj => (hB.cell (p := ⟨b, o + k * 64 + j, none⟩) hb).trans (hrg k (by have := HN.out; omega) j u (by rw [← hX]; exact hj))
      have HX := Lib.hid hX
      have H64 := Lib.hid hX64
      have RX := Lib.hid rX
      have IX := Lib.hid (i57 (vs := vbs X) (by rw [vbs_len]; exact hX64))
      have IA := Lib.hid (i57a hX64)
      have KT := Lib.hid (there_newT wr 57 (Z := Zt64) (X := X) (by rw [hX64]; rfl))
      have HO := Lib.hid hO
      have HB := Lib.hid hB
      clear hX hX64 rX hO hB hrg hk
      go_upto_region 5 with (first
        | (with_reducible refine wpList_load_mid rfl 57 (.tmp 10) rfl b (o + k * 64) rfl (vbs X) _ RX.out Tryd.underlying57 rfl IX.out ?_)
        | (with_reducible refine wpList_store_mid rfl 57 (.tmp 5) (.tmp 11) rfl wr.heap.size 0 (vbs X).toArray rfl rfl KT.out IA.out (all_oneCell_toArray (vbs_one _)) ?_))
      have g1 := blk_laidT wr 57 (Z := Zt64) (X := X) (by rw [H64.out]; rfl)
      have gb := below_laidT wr 57 Zt64 X
      generalize ((wr.alloc (.cells (vbs Zt64).toArray 57)).setCells wr.heap.size 0 (vbs X)) = W1 at g1 gb ⊢
      have HC := Lib.hid (hashed_any HT.out X H64.out W1 ((HG.out.below HB.out).below gb))
      obtain ⟨D, hD⟩ : ∃ D, D = tw X := ⟨_, rfl⟩
      rw [← hD] at HC
      have hD32 : D.length = 32 := by rw [hD]; exact HT.out.len X
      have HD := Lib.hid hD
      have HDl := Lib.hid hD32
      have RG1 := Lib.hid g1.range
      have GB := Lib.hid gb
      obtain ⟨M, hM⟩ : ∃ M, M = (ts.take k).map tw := ⟨_, rfl⟩
      have HM := Lib.hid hM
      have HO1 := HO.out.below gb
      rw [← hM] at HO1
      have hMl : M.length ≤ 1000000 := by rw [hM, List.length_map, List.length_take]; omega
      have HO1 := Lib.hid HO1
      have HMl := Lib.hid hMl
      have hws := gb.size
      have hww := HB.out.size
      clear hD hD32 g1 gb hM hMl hz HO KT IA RX
      go_upto_region 6 with (first
        | (with_reducible refine wpList_load_mid rfl 57 (.tmp 5) rfl wr.heap.size 0 rfl (vbs X) _ RG1.out Tryd.underlying57 rfl IX.out ?_)
        | (go_at_call 38; (with_reducible refine HC.out.mono ?_); rintro e W2 ⟨rfl, hb2⟩; have HO2 := Lib.hid (HO1.out.below hb2); have hs2 := hb2.size; have HB2 := Lib.hid (GB.out.trans (hb2.mono hws)); clear hb2 HC; dsimp only)
        | (refine wpList_rows (o := ⟨some 15, _, _, _, _, _⟩) rfl 22 25 32 (by omega) #[(0, .tmp 14)] [D] (.one HDl.out) (by simp) (by simp) rfl Tryd.underlying22 info25 z25 (by rfl) ?_; have g3 := Blk.new W2 25 (vbs [D].flatten).toArray; have b3 := (Below.refl W2.heap.size W2).alloc (Nat.le_refl _) (.cells (vbs [D].flatten).toArray 25); have HO3 := Lib.hid (HO2.out.below b3); have HB3 := Lib.hid (HB2.out.trans (b3.mono (Nat.le_trans hws hs2))); have hs3 := b3.size; generalize (W2.alloc (.cells (vbs [D].flatten).toArray 25)) = W3 at g3 b3 HO3 HB3 hs3 ⊢; have HG3 := Lib.hid (show Blk W3 W2.heap.size 25 (vbs D) by simpa using g3); clear g3 b3)
        | (refine wpList_appF (o := ⟨some 16, _, _, _, _, _⟩) Tryd.underlying22 info25f rfl (by omega) (by omega) rfl (.tmp 12) (.tmp 15) rfl rfl w.heap.size _ M rfl HO3.out W2.heap.size 25 1 D rfl HDl.out HG3.out HMl.out (by omega) ?_; intro v4 W4 ho4 hg4; have HO4 := Lib.hid ho4; have HB4 := Lib.hid (HB.out.grown (w' := W4) (row := u3.ownBlock) ⟨hg4.os.trans HB3.out.os, hg4.tape.trans HB3.out.tape, hg4.output.trans HB3.out.output, Nat.le_trans HB3.out.size hg4.size, fun j hj hne => (hg4.block j (Nat.lt_of_lt_of_le hj HB3.out.size) hne).trans (HB3.out.block j hj)⟩ hww (fun g e => (HO3.out.lt e).2.1)); clear ho4 hg4))
      go_wp2_with fail
      go_roundw
      case rel =>
        refine ⟨k + 1, by omega, by go_num, ?_, HB4.out⟩
        have := HO4.out
        rw [HM.out, HD.out, HX.out, ← take_map_succ tw ts k (by have := HN.out; omega)] at this
        exact this
      case measure => simp [intOf]; omega
    · obtain rfl : k = n := by omega
      have HO := Lib.hid hO
      have HB := Lib.hid hB
      have hlt' : ¬ (k : Int) < (k : Int) := by omega
      clear hO hB
      go_wp2_with fail
      go_ret
      exact ⟨_, rfl, by have := HO.out; rw [List.take_of_length_le (by rw [HN.out]; exact Nat.le_refl _)] at this; exact this, HB.out⟩
end Go.Proofs.YtihbmahjdmfjpaaDoor
