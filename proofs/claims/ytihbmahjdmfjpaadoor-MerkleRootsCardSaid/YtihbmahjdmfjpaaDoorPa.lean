/- What the document's side answers: Text, Partner and Above. -/
import Derived.Test.YtihbmahjdmfjpaaDoorHc
import Derived.Test.YtihbmahjdmfjpaaDoorXh
import Derived.Outline
import Derived.StillTailTactics
namespace Go.Proofs.YtihbmahjdmfjpaaDoor
open Go.RowKit
set_option linter.unusedVariables false
set_option linter.unusedSimpArgs false
set_option maxRecDepth 100000
variable {tw : List (BitVec 8) → List (BitVec 8)}
/-- The document's double digest, by contract. -/
structure RwC (tw : List (BitVec 8) → List (BitVec 8)) : Prop where
  len : ∀ R, (tw R).length = 32
  call : ∀ (A : Option Addr) (cap : Nat) (R : List (BitVec 8)) (w : World), Rd w w.heap.size A R → R.length ≤ cap → (A = none → cap = 0) → R.length < 1000000000 → Calls Tryd.prog 40 #[.slice A R.length cap] w (VPost (.agg (vbs (tw R)).toArray) w)
theorem rwC : RwC twiceB := ⟨fun R => sumB_len _, fun A cap R w h1 h2 h3 h4 => rtwice_any A cap R w h1 h2 h3 h4⟩
def OBPost (L : List (BitVec 8)) (w : World) (e : Ending) (w' : World) : Prop := ∃ v, e = .returned v ∧ OB w' w.heap.size v L ∧ Below w.heap.size w w'
def TxRel (X Y D : List (BitVec 8)) (w : World) (Z : List (BitVec 8)) (v i : Value) (wr : World) : Prop :=
  ∃ k : Nat, k ≤ 32 ∧ i = .int .i64 (k : Int) ∧ OB wr (w.heap.size + 2) v (D ++ Z.take k) ∧ Blk wr w.heap.size 25 (vbs X) ∧ Blk wr (w.heap.size + 1) 25 (vbs Y) ∧ Below w.heap.size w wr
theorem take_one {Z : List (BitVec 8)} {k : Nat} (hk : k < Z.length) : Z.take (k + 1) = Z.take k ++ [Z.getD k 0] := by
  rw [List.take_succ_eq_append_getElem hk]
  simp [List.getD, hk]
set_option maxHeartbeats 2000000 in
theorem text_any (X Y : List (BitVec 8)) (hX : X.length = 32) (hY : Y.length = 32) (w : World) : Calls Tryd.prog 35 #[.agg (vbs X).toArray, .agg (vbs Y).toArray] w (OBPost (X ++ Y) w) := by
  have HX := Lib.hid hX
  have HY := Lib.hid hY
  have hbel : Below w.heap.size w ((w.alloc (.cells (vbs X).toArray 25)).alloc (.cells (vbs Y).toArray 25)) := ((Below.refl _ _).alloc (Nat.le_refl _) _).alloc (by simp) _
  have b0 : Blk ((w.alloc (.cells (vbs X).toArray 25)).alloc (.cells (vbs Y).toArray 25)) w.heap.size 25 (vbs X) := (Blk.new w 25 (vbs X).toArray).alloc _
  have b1 : Blk ((w.alloc (.cells (vbs X).toArray 25)).alloc (.cells (vbs Y).toArray 25)) (w.heap.size + 1) 25 (vbs Y) := by
    have := Blk.new (w.alloc (.cells (vbs X).toArray 25)) 25 (vbs Y).toArray
    simpa using this
  have H0 := Lib.hid b0
  have H1 := Lib.hid b1
  have HB := Lib.hid hbel
  clear hX hY hbel b0 b1
  go_enter Tryd.func35, Tryd.ntmps35
  go_wp2_with fail
  generalize ((w.alloc (.cells (vbs X).toArray 25)).alloc (.cells (vbs Y).toArray 25)) = W0 at H0 H1 HB ⊢
  go_loopw [5, 6] (fun v i wr => TxRel X Y [] w X v i wr) (fun _ i _ => (32 - intOf i).toNat)
  case atStart => exact ⟨0, by omega, rfl, OB.nil _ _, H0.out, H1.out, HB.out⟩
  case round =>
    obtain ⟨k, hk, rfl, hO, h0, h1, hb⟩ := hrel
    have O1 := Lib.hid hO
    have K0 := Lib.hid h0
    have K1 := Lib.hid h1
    have KB := Lib.hid hb
    have hsz : w.heap.size + 1 < wr.heap.size := h1.lt
    clear hO h0 h1 hb H0 H1 HB
    by_cases hlt : k < 32
    · have hlt' : (k : Int) < 32 := by omega
      have c1 : wr.cell? ⟨w.heap.size, k, none⟩ = some (.int .u8 (Bt (X.getD k 0))) := K0.out.cell (vbs_at (by rw [HX.out]; exact hlt))
      have O2 := Lib.hid (O1.out.alloc (.cells #[.int .u8 (Bt (X.getD k 0))] 5))
      have J0 := Lib.hid (K0.out.alloc (.cells #[.int .u8 (Bt (X.getD k 0))] 5))
      have J1 := Lib.hid (K1.out.alloc (.cells #[.int .u8 (Bt (X.getD k 0))] 5))
      have JB := Lib.hid (KB.out.alloc KB.out.size (.cells #[.int .u8 (Bt (X.getD k 0))] 5))
      have hln : Hid (([] ++ X.take k).length + [X.getD k 0].length ≤ 140737488355328) := show ([] ++ X.take k).length + [X.getD k 0].length ≤ 140737488355328 by simp; omega
      go_wp2_with (first
        | ((with_reducible show wpList _ _ _ ((⟨some 17, _, _, _, _, _⟩ : Oper) :: _) _ _); refine wpList_push rfl (.tmp 12) (.tmp 16) rfl rfl (w.heap.size + 2) _ ([] ++ X.take k) [X.getD k 0] rfl O2.out (some ⟨wr.heap.size, 0, none⟩) 1 1 rfl rfl (src_one wr (X.getD k 0)) (fun h => by cases h) hln.out JB.out (by rw [World.size_alloc]; omega) (by omega) ?_; intro v' w' ho hb1 hb2; have O3 := Lib.hid ho; have M0 := Lib.hid (J0.out.below hb2 (by omega)); have M1 := Lib.hid (J1.out.below hb2 (by omega)); have MB := Lib.hid hb1; clear ho hb1 hb2; dsimp only))
      go_roundw
      case rel => exact ⟨k + 1, by omega, by go_num, by rw [take_one (by rw [HX.out]; exact hlt), ← List.append_assoc]; exact O3.out, M0.out, M1.out, MB.out⟩
      case measure => simp [intOf]; omega
    · have hlt' : ¬ (k : Int) < 32 := by omega
      have hO2 := O1.out
      rw [List.nil_append, List.take_of_length_le (by rw [HX.out]; omega)] at hO2
      have O2 := Lib.hid hO2
      clear hO2 O1
      go_wp2_with fail
      go_loopw [5, 7] (fun v i wr => TxRel X Y X w Y v i wr) (fun _ i _ => (32 - intOf i).toNat)
      case atStart => exact ⟨0, by omega, rfl, by rw [List.take_zero, List.append_nil]; exact O2.out, K0.out, K1.out, KB.out⟩
      case round =>
        obtain ⟨k, hk, rfl, hO, h0, h1, hb⟩ := hrel
        have O1 := Lib.hid hO
        have K0 := Lib.hid h0
        have K1 := Lib.hid h1
        have KB := Lib.hid hb
        rename_i wr
        have hsz : w.heap.size + 1 < wr.heap.size := h1.lt
        clear hO h0 h1 hb O2
        by_cases hlt : k < 32
        · have hlt' : (k : Int) < 32 := by omega
          have c1 : wr.cell? ⟨w.heap.size + 1, k, none⟩ = some (.int .u8 (Bt (Y.getD k 0))) := K1.out.cell (vbs_at (by rw [HY.out]; exact hlt))
          have O2 := Lib.hid (O1.out.alloc (.cells #[.int .u8 (Bt (Y.getD k 0))] 5))
          have J0 := Lib.hid (K0.out.alloc (.cells #[.int .u8 (Bt (Y.getD k 0))] 5))
          have J1 := Lib.hid (K1.out.alloc (.cells #[.int .u8 (Bt (Y.getD k 0))] 5))
          have JB := Lib.hid (KB.out.alloc KB.out.size (.cells #[.int .u8 (Bt (Y.getD k 0))] 5))
          have hln : Hid ((X ++ Y.take k).length + [Y.getD k 0].length ≤ 140737488355328) := show (X ++ Y.take k).length + [Y.getD k 0].length ≤ 140737488355328 by have := HX.out; simp; omega
          go_wp2_with (first
            | ((with_reducible show wpList _ _ _ ((⟨some 27, _, _, _, _, _⟩ : Oper) :: _) _ _); refine wpList_push rfl (.tmp 22) (.tmp 26) rfl rfl (w.heap.size + 2) _ (X ++ Y.take k) [Y.getD k 0] rfl O2.out (some ⟨wr.heap.size, 0, none⟩) 1 1 rfl rfl (src_one wr (Y.getD k 0)) (fun h => by cases h) hln.out JB.out (by rw [World.size_alloc]; omega) (by omega) ?_; intro v' w' ho hb1 hb2; have O3 := Lib.hid ho; have M0 := Lib.hid (J0.out.below hb2 (by omega)); have M1 := Lib.hid (J1.out.below hb2 (by omega)); have MB := Lib.hid hb1; clear ho hb1 hb2; dsimp only))
          go_roundw
          case rel => exact ⟨k + 1, by omega, by go_num, by rw [take_one (by rw [HY.out]; exact hlt), ← List.append_assoc]; exact O3.out, M0.out, M1.out, MB.out⟩
          case measure => simp [intOf]; omega
        · have hlt' : ¬ (k : Int) < 32 := by omega
          go_wp2_with fail
          go_ret
          refine ⟨_, rfl, OB.base (B := w.heap.size + 2) ?_ (by omega), KB.out⟩
          have := O1.out
          rw [List.take_of_length_le (by rw [HY.out]; omega)] at this
          exact this
/-- The place of the i-th's partner. -/
def parK (n i : Nat) : Nat := if i % 2 = 1 then i - 1 else if i + 1 < n then i + 1 else i
set_option maxHeartbeats 2000000 in
theorem partner_any (A : Option Addr) (n c i : Nat) (L : List (List (BitVec 8))) (w : World) (hR : RdN 32 w A n c L) (hi : i < n) (hn : n ≤ 1000000) :
    Calls Tryd.prog 36 #[.slice A n c, .int .i64 (i : Int)] w (VPost (.agg (vbs (L.getD (parK n i) [])).toArray) w) := by
  have hz := zero25
  obtain ⟨b, o, rfl, hbb, hpk⟩ := hR.pick (by omega) (by omega)
  have hx : parK n i < n := by unfold parK; split <;> (try split) <;> omega
  obtain ⟨x, hxe⟩ : ∃ x, x = parK n i := ⟨_, rfl⟩
  rw [← hxe] at hx ⊢
  have hYl := (hpk x hx).2
  have rY := (hpk x hx).1
  obtain ⟨Y, hY⟩ : ∃ Y, Y = L.getD x [] := ⟨_, rfl⟩
  rw [← hY] at hYl rY ⊢
  have hbel : Below w.heap.size w (w.alloc (.cells (vbs Z32).toArray 25)) := (Below.refl _ _).alloc (Nat.le_refl _) _
  have H0 := Lib.hid (HBx.new w Z32 rfl)
  have HB := Lib.hid hbel
  have HYl := Lib.hid hYl
  have IY := Lib.hid (i25' (vs := vbs Y) (by rw [vbs_len]; exact hYl))
  have IA := Lib.hid (i25a hYl)
  have RY : Hid ((w.alloc (.cells (vbs Z32).toArray 25)).rangeAt b (o + x * 32) (vbs Y)) := (show (w.alloc (.cells (vbs Z32).toArray 25)).rangeAt b (o + x * 32) (vbs Y) from fun q u hq => (hbel.cell (p := ⟨b, o + x * 32 + q, none⟩) hbb).trans (rY q u hq))
  have KT := Lib.hid (H0.out.kt hYl)
  have Bf := Lib.hid (H0.out.set hYl)
  have BBf := Lib.hid (below_setCells (B := w.heap.size) (b := w.heap.size) (by omega) (vbs Y) 0 _ hbel)
  have hxn : (x : Int) < (n : Int) := by omega
  clear hR hpk hY hYl rY hbel
  unfold parK at hxe
  by_cases hp : i % 2 = 1
  · rw [if_pos hp] at hxe
    have hp' : ((i : Int) % 2 == 1) = true := by simp; omega
    have hxi : (i : Int) - 1 = (x : Int) := by omega
    have hge : ¬ (n : Int) ≤ (x : Int) := by omega
    clear hxe
    go_enter Tryd.func36, Tryd.ntmps36
    go_wp2_with (first
      | ((with_reducible show wpList _ _ _ ((⟨some 21, _, _, _, _, _⟩ : Oper) :: _) _ _); with_reducible refine wpList_load_mid rfl 25 (.tmp 20) rfl b (o + x * 32) rfl (vbs Y) _ RY.out Tryd.underlying25 rfl IY.out ?_)
      | ((with_reducible show wpList _ _ _ ((⟨none, _, _, _, _, _⟩ : Oper) :: _) _ _); with_reducible refine wpList_store_mid rfl 25 (.tmp 4) (.tmp 21) rfl w.heap.size 0 (vbs Y).toArray rfl rfl KT.out IA.out (all_oneCell_toArray (vbs_one _)) ?_))
    have hlv := run_loadVar_mid (P := Tryd.prog) ((w.alloc (.cells (vbs Z32).toArray 25)).setCells w.heap.size 0 (vbs Y)) w.heap.size 0 25 _ _ Bf.out.1.range Tryd.underlying25 rfl Bf.out.inf
    exact bodyPost_ret (v := .agg (vbs Y).toArray) (by simp [results, Tryd.results36, asAddr, Act.put, hlv]) rfl ⟨rfl, BBf.out⟩
  · rw [if_neg hp] at hxe
    have hp' : ((i : Int) % 2 == 1) = false := by simp; omega
    by_cases hg : i + 1 < n
    · rw [if_pos hg] at hxe
      have hxi : (i : Int) + 1 = (x : Int) := by omega
      have hge : ¬ (n : Int) ≤ (x : Int) := by omega
      have hge' : ¬ (n : Int) ≤ (i : Int) + 1 := by omega
      clear hxe
      go_enter Tryd.func36, Tryd.ntmps36
      go_wp2_with (first
        | ((with_reducible show wpList _ _ _ ((⟨some 21, _, _, _, _, _⟩ : Oper) :: _) _ _); with_reducible refine wpList_load_mid rfl 25 (.tmp 20) rfl b (o + x * 32) rfl (vbs Y) _ RY.out Tryd.underlying25 rfl IY.out ?_)
        | ((with_reducible show wpList _ _ _ ((⟨none, _, _, _, _, _⟩ : Oper) :: _) _ _); with_reducible refine wpList_store_mid rfl 25 (.tmp 4) (.tmp 21) rfl w.heap.size 0 (vbs Y).toArray rfl rfl KT.out IA.out (all_oneCell_toArray (vbs_one _)) ?_))
      have hlv := run_loadVar_mid (P := Tryd.prog) ((w.alloc (.cells (vbs Z32).toArray 25)).setCells w.heap.size 0 (vbs Y)) w.heap.size 0 25 _ _ Bf.out.1.range Tryd.underlying25 rfl Bf.out.inf
      exact bodyPost_ret (v := .agg (vbs Y).toArray) (by simp [results, Tryd.results36, asAddr, Act.put, hlv]) rfl ⟨rfl, BBf.out⟩
    · rw [if_neg hg] at hxe
      subst hxe
      have hge' : (n : Int) ≤ (x : Int) + 1 := by omega
      go_enter Tryd.func36, Tryd.ntmps36
      go_wp2_with (first
        | ((with_reducible show wpList _ _ _ ((⟨some 21, _, _, _, _, _⟩ : Oper) :: _) _ _); with_reducible refine wpList_load_mid rfl 25 (.tmp 20) rfl b (o + x * 32) rfl (vbs Y) _ RY.out Tryd.underlying25 rfl IY.out ?_)
        | ((with_reducible show wpList _ _ _ ((⟨none, _, _, _, _, _⟩ : Oper) :: _) _ _); with_reducible refine wpList_store_mid rfl 25 (.tmp 4) (.tmp 21) rfl w.heap.size 0 (vbs Y).toArray rfl rfl KT.out IA.out (all_oneCell_toArray (vbs_one _)) ?_))
      have hlv := run_loadVar_mid (P := Tryd.prog) ((w.alloc (.cells (vbs Z32).toArray 25)).setCells w.heap.size 0 (vbs Y)) w.heap.size 0 25 _ _ Bf.out.1.range Tryd.underlying25 rfl Bf.out.inf
      exact bodyPost_ret (v := .agg (vbs Y).toArray) (by simp [results, Tryd.results36, asAddr, Act.put, hlv]) rfl ⟨rfl, BBf.out⟩
end Go.Proofs.YtihbmahjdmfjpaaDoor
