/- What the document's own Lay returns: the bytes of a transaction. -/
import Derived.Test.YtnkkhmgplpkjbaaDoorOa
import Derived.Outline
namespace Go.Proofs.YtnkkhmgplpkjbaaDoor
open Go.RowKit
set_option linter.unusedVariables false
set_option linter.unusedSimpArgs false
set_option maxRecDepth 100000
set_option maxHeartbeats 16000000 in
theorem rlay_true (t : TTx) (i o : Value) (w : World) (h : TxOk w w.heap.size t i o) (hc : chk t = 0) : Calls Tryd.prog 29 #[txV t i o, .bool true] w (LaidPost (layB t true) w) := by
  obtain ⟨hins, houts, hver, hlock⟩ := h
  obtain ⟨z1, z2, z3, z4, z5, _, _⟩ := chk_zero hc
  have hins' := hins
  have houts' := houts
  obtain ⟨A1, c1, b, o1, rfl, hA, hr⟩ := Row.open hins
  obtain ⟨A2, c2, b2, o2, rfl, hA2, hr2⟩ := Row.open houts
  obtain ⟨w1, hw1⟩ : ∃ w1, w1 = w.alloc (.cells #[.int .u32 (t.ver : Int), .slice A1 t.ins.length c1, .slice A2 t.outs.length c2, .int .u32 (t.lock : Int)] 26) := ⟨_, rfl⟩
  have hb1 : Below w.heap.size w w1 := by rw [hw1]; exact (Below.refl _ _).alloc (Nat.le_refl _) _
  have hsz : w1.heap.size = w.heap.size + 1 := by rw [hw1]; simp
  have HT : Hid (∀ wq, SB w1 wq → wq.cell? ⟨w.heap.size, 0, none⟩ = some (.int .u32 (t.ver : Int)) ∧ wq.cell? ⟨w.heap.size, 1, none⟩ = some (.slice A1 t.ins.length c1) ∧ wq.cell? ⟨w.heap.size, 2, none⟩ = some (.slice A2 t.outs.length c2) ∧ wq.cell? ⟨w.heap.size, 3, none⟩ = some (.int .u32 (t.lock : Int))) := fun wq hq =>
    ⟨hq.cell (by rw [hw1]; exact cell_new rfl rfl), hq.cell (by rw [hw1]; exact cell_new rfl rfl), hq.cell (by rw [hw1]; exact cell_new rfl rfl), hq.cell (by rw [hw1]; exact cell_new rfl rfl)⟩
  have HX : Hid (∀ i, i < t.ins.length → A1 = some ⟨b, o1, none⟩ ∧ ∃ As cs Aw cw, ∃ wb wo : Nat, InOk w1 w1.heap.size (t.ins.getD i In0) (.slice As (t.ins.getD i In0).sc.length cs) (.slice Aw (t.ins.getD i In0).wt.length cw) ∧ (t.ins.getD i In0).sc.length ≤ 128 ∧ (t.ins.getD i In0).wt.length ≤ 8 ∧
      (∀ wq, SB w1 wq → wq.rangeAt b (o1 + i * 36) (inV (t.ins.getD i In0) (.slice As (t.ins.getD i In0).sc.length cs) (.slice Aw (t.ins.getD i In0).wt.length cw)) ∧ wq.cell? ⟨b, o1 + i * 36 + 35, none⟩ = some (.slice Aw (t.ins.getD i In0).wt.length cw)) ∧
      ∀ k, k < (t.ins.getD i In0).wt.length → Aw = some ⟨wb, wo, none⟩ ∧ ∃ At ct, Sl w1 w1.heap.size (.slice At ((t.ins.getD i In0).wt.getD k []).length ct) ((t.ins.getD i In0).wt.getD k []) ∧ ((t.ins.getD i In0).wt.getD k []).length ≤ 128 ∧ ∀ wq, SB w1 wq → wq.cell? ⟨wb, wo + k, none⟩ = some (.slice At ((t.ins.getD i In0).wt.getD k []).length ct)) := fun i hi => by
    obtain ⟨hlt, s, u, hcx, hok⟩ := hr i hi
    have hok' := hok
    obtain ⟨hs, hu, h32, _, _⟩ := hok
    have hu' := hu
    obtain ⟨As, cs, rfl, _⟩ := hs
    obtain ⟨Aw, cw, wb, wo, rfl, hAw, hww⟩ := Row.open hu
    have hmem := getD_mem t.ins In0 i hi
    refine ⟨hA (by omega), As, cs, Aw, cw, wb, wo, (hok'.keep hb1 (Nat.le_refl _)).up hb1.size, z3 _ hmem, (z4 _ hmem).1, fun wq hq => ?_, fun k hk => ?_⟩
    · have hR : wq.rangeAt b (o1 + i * 36) (inV (t.ins.getD i In0) (.slice As (t.ins.getD i In0).sc.length cs) (.slice Aw (t.ins.getD i In0).wt.length cw)) := SB.range hq (range_keep hcx hb1 hlt) (Nat.lt_of_lt_of_le hlt hb1.size)
      exact ⟨hR, hR 35 _ (inV_at h32).2.2.2⟩
    · obtain ⟨hwl, tt, hct, hsl⟩ := hww k hk
      rw [Nat.mul_one] at hct
      have hsl' := hsl
      obtain ⟨At, ct, rfl, _⟩ := hsl
      refine ⟨hAw (by omega), At, ct, (hsl'.keep hb1 (Nat.le_refl _)).up hb1.size, (z4 _ hmem).2 _ (getD_mem _ [] k hk), fun wq hq => ?_⟩
      exact hq.cell (by rw [hb1.cell (p := ⟨wb, wo + k, none⟩) hwl]; exact hct)
  have HY : Hid (∀ i, i < t.outs.length → A2 = some ⟨b2, o2, none⟩ ∧ ∃ As cs, Sl w1 w1.heap.size (.slice As (t.outs.getD i Out0).sc.length cs) (t.outs.getD i Out0).sc ∧ (t.outs.getD i Out0).sc.length ≤ 128 ∧ -9223372036854775808 ≤ (t.outs.getD i Out0).vl ∧ (t.outs.getD i Out0).vl < 9223372036854775808 ∧
      ∀ wq, SB w1 wq → wq.cell? ⟨b2, o2 + i * 2, none⟩ = some (.int .i64 (t.outs.getD i Out0).vl) ∧ wq.cell? ⟨b2, o2 + i * 2 + 1, none⟩ = some (.slice As (t.outs.getD i Out0).sc.length cs)) := fun i hi => by
    obtain ⟨hlt, s, hcx, hs, hv1, hv2⟩ := hr2 i hi
    have hs' := hs
    obtain ⟨As, cs, rfl, _⟩ := hs
    refine ⟨hA2 (by omega), As, cs, (hs'.keep hb1 (Nat.le_refl _)).up hb1.size, z5 _ (getD_mem t.outs Out0 i hi), hv1, hv2, fun wq hq => ?_⟩
    have hR : wq.rangeAt b2 (o2 + i * 2) (outV (t.outs.getD i Out0) (.slice As (t.outs.getD i Out0).sc.length cs)) := SB.range hq (range_keep hcx hb1 hlt) (Nat.lt_of_lt_of_le hlt hb1.size)
    exact ⟨by simpa using hR 0 _ rfl, hR 1 _ rfl⟩
  have hX32 : ∀ x ∈ t.ins, (inB x).length ≤ 200 := fun x hx => by
    obtain ⟨k, hk, rfl⟩ := List.getElem_of_mem hx
    obtain ⟨_, s, u, _, _, _, h32, _, _⟩ := hr k hk
    have e : t.ins.getD k In0 = t.ins[k] := by simp [List.getD, hk]
    rw [e] at h32
    exact inB_le (z3 _ hx) h32
  have HF1 : Hid (∀ i, i ≤ t.ins.length → ((t.ins.take i).map inB).flatten.length ≤ 3200) := fun i hi => by
    have := flat_le inB 200 (t.ins.take i) (take_sub hX32)
    rw [List.length_take, Nat.min_eq_left hi] at this
    omega
  have HF2 : Hid (∀ i, i ≤ t.outs.length → ((t.outs.take i).map outB).flatten.length ≤ 3200) := fun i hi => by
    have := flat_le outB 200 (t.outs.take i) (take_sub fun x hx => outB_le (z5 x hx))
    rw [List.length_take, Nat.min_eq_left hi] at this
    omega
  have HF3 : Hid (∀ i, i ≤ t.ins.length → ((t.ins.take i).map witB).flatten.length ≤ 32000) := fun i hi => by
    have := flat_le witB 2000 (t.ins.take i) (take_sub (witB_le z4))
    rw [List.length_take, Nat.min_eq_left hi] at this
    omega
  have K4 := Lib.hid rdig4_w
  have K8 := Lib.hid rdig8_w
  have KC := Lib.hid rcount_w
  have KT := Lib.hid rtext5_w
  obtain ⟨n1, hn1⟩ : ∃ n, n = t.ins.length := ⟨_, rfl⟩
  obtain ⟨n2, hn2⟩ : ∃ n, n = t.outs.length := ⟨_, rfl⟩
  have hn16 : n1 ≤ 16 := by omega
  have hn26 : n2 ≤ 16 := by omega
  obtain ⟨ver, hv⟩ : ∃ n, n = t.ver := ⟨_, rfl⟩
  obtain ⟨lock, hlk⟩ : ∃ n, n = t.lock := ⟨_, rfl⟩
  have KV := Lib.hid (fun wq => rdig4_any ver wq (by omega))
  have Hlk : Hid (lock < 4294967296) := show lock < 4294967296 by omega
  have hwv : IntKind.u64.wrap (ver : Int) = (ver : Int) := by rw [IntKind.wrap_u64]; omega
  have hwl : IntKind.u64.wrap (lock : Int) = (lock : Int) := by rw [IntKind.wrap_u64]; omega
  have hwn1 : IntKind.u64.wrap (n1 : Int) = (n1 : Int) := by rw [IntKind.wrap_u64]; omega
  have hwn2 : IntKind.u64.wrap (n2 : Int) = (n2 : Int) := by rw [IntKind.wrap_u64]; omega
  have HLay : Hid (layB t true = les ver 4 ++ [0, 1] ++ form n1 ++ (t.ins.map inB).flatten ++ form n2 ++ (t.outs.map outB).flatten ++ witsB t.ins ++ les lock 4) := show layB t true = les ver 4 ++ [0, 1] ++ form n1 ++ (t.ins.map inB).flatten ++ form n2 ++ (t.outs.map outB).flatten ++ witsB t.ins ++ les lock 4 by rw [hn1, hn2, hv, hlk]; simp [layB]
  have hTot1 : (t.ins.take n1) = t.ins := by rw [hn1]; exact List.take_of_length_le (Nat.le_refl _)
  have hTot2 : (t.outs.take n2) = t.outs := by rw [hn2]; exact List.take_of_length_le (Nat.le_refl _)
  have HTot := Lib.hid (⟨hTot1, hTot2⟩ : _ ∧ _)
  have HSu1 : Hid (∀ i, i < n1 → ((t.ins.take (i + 1)).map inB).flatten = ((t.ins.take i).map inB).flatten ++ inB (t.ins.getD i In0)) := fun i hi => flat_succ inB t.ins In0 i (by omega)
  have HSu2 : Hid (∀ i, i < n2 → ((t.outs.take (i + 1)).map outB).flatten = ((t.outs.take i).map outB).flatten ++ outB (t.outs.getD i Out0)) := fun i hi => flat_succ outB t.outs Out0 i (by omega)
  have HSu3 : Hid (∀ i, i < n1 → ((t.ins.take (i + 1)).map witB).flatten = ((t.ins.take i).map witB).flatten ++ witB (t.ins.getD i In0)) := fun i hi => flat_succ witB t.ins In0 i (by omega)
  unfold txV
  rw [← hn1] at HX HF1 HF3 hw1 HT ⊢
  rw [← hn2] at HY HF2 hw1 HT ⊢
  rw [← hv] at hw1 HT ⊢
  rw [← hlk] at hw1 HT ⊢
  have Hb1 := Lib.hid hb1
  have Hts : Hid (w.heap.size ≤ w1.heap.size) := hb1.size
  have HW := Lib.hid hw1
  clear hins houts hins' houts' z1 z2 z3 z4 z5 hc hr hr2 hA hA2 hver hlock hX32 hTot1 hTot2 hn1 hn2 hv hlk hb1 hw1 hsz
  obtain ⟨Fl, hFl⟩ : ∃ L, L = layB t true := ⟨_, rfl⟩
  rw [← hFl] at HLay ⊢
  clear hFl
  go_enter Tryd.func29, Tryd.ntmps29
  go_upto_region 1 with fail
  rw [← HW.out]
  generalize w.heap.size = tb at HT ⊢
  obtain ⟨W1, hW1⟩ : ∃ W, W = w1 := ⟨_, rfl⟩
  rw [← hW1] at HT HX HY Hb1 Hts ⊢
  clear hW1 HW
  have hT := HT.out W1 (SB.refl W1)
  obtain ⟨d0, _, _, _⟩ := hT
  go_upto_region 2 with (go_at_call 49; (with_reducible refine (KV.out _).mono ?_); rintro e w2 ⟨v2, rfl, ho2, hb2⟩; have HQ : Hid (LQ W1 v2 (les ver 4) w2) := (⟨hb2, ho2⟩ : LQ W1 v2 (les ver 4) w2); clear ho2 hb2; dsimp only)
  clear d0 KV hwv
  have HQ2 := Lib.hid (HQ.out.next ((Below.refl _ _).alloc (Nat.le_refl _) (.cells #[.int .u8 0, .int .u8 1] 5)))
  have HS2 := Lib.hid (src_lit w2)
  go_upto_region 4 with ((with_reducible show wpList _ _ _ ((⟨some 19, _, _, _, _, _⟩ : Oper) :: _) _ _); refine wpList_pushT (W1 := W1) (o := ⟨some 19, _, _, _, _, _⟩) rfl (.tmp 17) (.tmp 18) rfl rfl _ (les ver 4) [0, 1] rfl HQ2.out (some ⟨w2.heap.size, 0, none⟩) 2 2 rfl rfl HS2.out (fun h => by cases h) (by rw [les_len]; decide) ?_; intro v' w' h1 h2 h3)
  have HQ := Lib.hid h1
  clear h1 h2 h3 HQ2 HS2
  obtain ⟨P0, hP0⟩ : ∃ P, P = les ver 4 ++ [0, 1] := ⟨_, rfl⟩
  have hp0 : P0.length ≤ 6 := by rw [hP0]; simp [les_len]
  rw [← hP0] at HQ
  have HP0 := Lib.hid hP0
  clear hP0
  have dT := (HT.out _ HQ.out.sb).2.1
  go_upto_region 5 with (first
    | (go_at_call 50; (with_reducible refine (KC.out n1 _ (by omega)).mono ?_); rintro e w2 ⟨A2, c2, rfl, hs2, hn2, hb2⟩; have HQ2 := Lib.hid (HQ.out.next hb2); have HS2 := Lib.hid hs2; have HN2 := Lib.hid hn2; clear hs2 hn2 hb2; dsimp only)
    | ((with_reducible show wpList _ _ _ ((⟨some 26, _, _, _, _, _⟩ : Oper) :: _) _ _); refine wpList_pushT (W1 := W1) (o := ⟨some 26, _, _, _, _, _⟩) rfl (.tmp 20) (.tmp 25) rfl rfl _ (P0) (form n1) rfl HQ2.out A2 1 c2 rfl (by rw [form_small (by omega)]; rfl) HS2.out HN2.out (by rw [form_small (show n1 < 253 by omega)]; simp; omega) ?_; intro v' w' h1 h2 h3))
  have HQ := Lib.hid h1
  clear h1 h2 h3 HQ2 HS2 HN2
  obtain ⟨P1, hP1⟩ : ∃ P, P = P0 ++ form n1 := ⟨_, rfl⟩
  have hp1 : P1.length ≤ 7 := by rw [hP1, form_small (by omega)]; simp; omega
  rw [← hP1] at HQ
  have HP1 := Lib.hid hP1
  clear hP1 dT
  go_wp2_with fail
  go_loopw [5, 6] (fun v iv wq => ∃ i : Nat, i ≤ n1 ∧ iv = .int .i64 (i : Int) ∧ LQ W1 v (P1 ++ ((t.ins.take i).map inB).flatten) wq) (fun _ iv _ => n1 - (intOf iv).toNat)
  case atStart => exact ⟨0, Nat.zero_le _, rfl, by simpa using HQ.out⟩
  case round =>
    obtain ⟨i, hi, rfl, hq⟩ := hrel
    clear HQ
    obtain ⟨hT0, hT1, hT2, hT3⟩ := HT.out _ hq.sb
    by_cases hi1 : i < n1
    · have hi2 : (i : Int) < (n1 : Int) := by omega
      obtain ⟨rfl, As, cs, Aw, cw, wb, wo, hok, hsc, hwt, hR, _⟩ := HX.out i hi1
      obtain ⟨x, hx⟩ : ∃ x, x = t.ins.getD i In0 := ⟨_, rfl⟩
      rw [← hx] at hok hsc hwt hR
      have hbd := HF1.out i hi
      obtain ⟨L, hL⟩ : ∃ L, L = P1 ++ ((t.ins.take i).map inB).flatten := ⟨_, rfl⟩
      have hLl : L.length ≤ 3300 := by rw [hL, List.length_append]; omega
      rw [← hL] at hq
      have HSx : Hid (P1 ++ ((t.ins.take (i + 1)).map inB).flatten = L ++ x.tx ++ les x.ix 4 ++ txt x.sc ++ les x.sq 4) := show P1 ++ ((t.ins.take (i + 1)).map inB).flatten = L ++ x.tx ++ les x.ix 4 ++ txt x.sc ++ les x.sq 4 by rw [HSu1.out i hi1, ← hx, hL]; simp [inB]
      obtain ⟨hRq, _⟩ := hR wr hq.sb
      have Hok := Lib.hid hok
      have h32 := hok.2.2.1
      have H32 := Lib.hid h32
      have HQ := Lib.hid hq
      have hz := zero57
      obtain ⟨ls, hls⟩ : ∃ n, n = x.sc.length := ⟨_, rfl⟩
      obtain ⟨lw, hlw⟩ : ∃ n, n = x.wt.length := ⟨_, rfl⟩
      rw [← hls] at hsc hRq Hok
      rw [← hlw] at hRq Hok
      have Hls := Lib.hid hls
      have HRq := Lib.hid hRq
      have HBX := Lib.hid (in_box wr (s := .slice As ls cs) (u := .slice Aw lw cw) h32)
      have HBT := Lib.hid (in_there wr (s := .slice As ls cs) (u := .slice Aw lw cw) h32)
      have HO1 := Lib.hid (inV_one Hok.out)
      clear hq hok hR hx hL hbd hRq h32 hls hlw hwt
      go_upto_region 9 with (first
        | (with_reducible refine wpList_load_mid rfl 57 (.tmp 37) rfl b (o1 + i * 36) rfl (inV x (.slice As ls cs) (.slice Aw lw cw)) _ HRq.out Tryd.underlying57 rfl (info57x H32.out) ?_)
        | (with_reducible refine wpList_store_mid rfl 57 (.tmp 7) (.tmp 38) rfl wr.heap.size 0 (inV x (.slice As ls cs) (.slice Aw lw cw)).toArray rfl rfl HBT.out (info57v H32.out) (all_oneCell_toArray HO1.out) ?_))
      try dsimp only [Act.put]
      have hbk := HBX.out.1
      have hq := HQ.out.next HBX.out.2
      generalize (wr.alloc (.cells zIn.toArray 57)).setCells wr.heap.size 0 (inV x (.slice As ls cs) (.slice Aw lw cw)) = W3 at hbk hq ⊢
      generalize wr.heap.size = g at hbk ⊢
      have HQ0 := Lib.hid hq
      have HBk0 := Lib.hid hbk
      clear hq hbk HBX HBT HO1 HRq HQ hz hT0 hT1 hT2 hT3
      go_wp2_with fail
      go_loopw [5, 8] (fun v kv wq => ∃ k : Nat, k ≤ 32 ∧ kv = .int .i64 (k : Int) ∧ LQ W1 v (L ++ x.tx.take k) wq ∧ Blk wq g 57 (inV x (.slice As ls cs) (.slice Aw lw cw))) (fun _ kv _ => 32 - (intOf kv).toNat)
      case atStart => exact ⟨0, Nat.zero_le _, rfl, by simpa using HQ0.out, HBk0.out⟩
      case round =>
        obtain ⟨k, hk, rfl, hq, hbk⟩ := hrel
        clear HQ0 HBk0
        have HQ := Lib.hid hq
        have HBk := Lib.hid hbk
        by_cases hk1 : k < 32
        · have hk2 : (k : Int) < 32 := by omega
          have hk0 : (0 : Int) ≤ (k : Int) := by omega
          have e : x.tx.take (k + 1) = x.tx.take k ++ [x.tx.getD k 0] := by have := H32.out; rw [List.take_succ_eq_append_getElem (by omega)]; simp [List.getD, this, hk1]
          have c0 := hbk.cell (inV_tx (x := x) (s := .slice As ls cs) (v := .slice Aw lw cw) (j := k) (by rw [H32.out]; exact hk1))
          obtain ⟨y, hy⟩ : ∃ y, y = x.tx.getD k 0 := ⟨_, rfl⟩
          rw [← hy] at c0 e
          have He := Lib.hid e
          have hlt : (L ++ x.tx.take k).length ≤ 3400 := by rw [List.length_append, List.length_take]; omega
          have HQ2 := Lib.hid (hq.next ((Below.refl _ _).alloc (Nat.le_refl _) (.cells #[.int .u8 (Bt y)] 5)))
          have HS2 := Lib.hid (src_one wr y)
          have HBk2 := Lib.hid (hbk.alloc (.cells #[.int .u8 (Bt y)] 5))
          clear hq hbk e hy
          go_wp2_with ((with_reducible show wpList _ _ _ ((⟨some 50, _, _, _, _, _⟩ : Oper) :: _) _ _); refine wpList_pushT (W1 := W1) (o := ⟨some 50, _, _, _, _, _⟩) rfl (.tmp 43) (.tmp 49) rfl rfl _ (L ++ x.tx.take k) [y] rfl HQ2.out (some ⟨wr.heap.size, 0, none⟩) 1 1 rfl (one_len _) HS2.out (fun h => by cases h) (by simp only [List.length_cons, List.length_nil]; omega) ?_; intro v' w' h1 h2 h3)
          have h4 := h3 _ _ _ (by decide) HBk2.out
          clear c0 hk0
          go_roundw
          case rel => exact ⟨k + 1, by omega, by go_num, by rw [He.out, ← List.append_assoc]; exact h1, h4⟩
          case measure => simp [intOf]; omega
        · obtain rfl : k = 32 := by omega
          have e32 : x.tx.take 32 = x.tx := List.take_of_length_le (by rw [H32.out]; exact Nat.le_refl _)
          rw [e32] at HQ
          have hlt : (L ++ x.tx).length ≤ 3400 := by rw [List.length_append, H32.out]; omega
          obtain ⟨e32a, e33a, e34a, _⟩ := inV_at (x := x) (s := .slice As ls cs) (v := .slice Aw lw cw) H32.out
          obtain ⟨hs, hu, _, hix, hsq⟩ := Hok.out
          have hwx : IntKind.u64.wrap (x.ix : Int) = (x.ix : Int) := by rw [IntKind.wrap_u64]; omega
          have hws : IntKind.u64.wrap (x.sq : Int) = (x.sq : Int) := by rw [IntKind.wrap_u64]; omega
          have ec : ((32 : Nat) : Int) = 32 := rfl
          rw [ec]
          have c32 := hbk.cell e32a
          clear hq hbk e32
          go_upto_region 14 with (first
            | (go_at_call 49; (with_reducible refine (K4.out x.ix _ hix).mono ?_); rintro e w2 ⟨A2, c2, rfl, hs2, hn2, hb2⟩; have HQ2 := Lib.hid (HQ.out.next hb2); have HBk2 := Lib.hid (HBk.out.below hb2 HBk.out.lt); have HS2 := Lib.hid hs2; have HN2 := Lib.hid hn2; clear hs2 hn2 hb2; dsimp only)
            | ((with_reducible show wpList _ _ _ ((⟨some 57, _, _, _, _, _⟩ : Oper) :: _) _ _); refine wpList_pushT (W1 := W1) (o := ⟨some 57, _, _, _, _, _⟩) rfl (.tmp 51) (.tmp 56) rfl rfl _ (L ++ x.tx) (les x.ix 4) rfl HQ2.out A2 4 c2 rfl (by rw [les_len]) HS2.out HN2.out (by rw [les_len]; omega) ?_; intro v' w' h1 h2 h3))
          have HBk := Lib.hid (h3 _ _ _ (by decide) HBk2.out)
          have HQ := Lib.hid h1
          clear h1 h2 h3 HQ2 HS2 HN2 HBk2
          have hlt2 : (L ++ x.tx ++ les x.ix 4).length ≤ 3410 := by rw [List.length_append, les_len]; omega
          have c33 := HBk.out.cell e33a
          clear c32
          obtain ⟨mt, hmt⟩ : ∃ m, m = (txt x.sc).length := ⟨_, rfl⟩
          have htl := txt_len x.sc
          rw [← hmt, ← Hls.out] at htl
          have KTx := Lib.hid (fun wq (hq : SB W1 wq) => KT.out As x.sc ls mt cs wq Hls.out.symm hmt.symm (sl_rd hs hq).1 (sl_rd hs hq).2 (by omega))
          go_upto_region 15 with (first
            | (go_at_call 51; (with_reducible refine (KTx.out _ HQ.out.sb).mono ?_); rintro e w2 ⟨A2, c2, rfl, hs2, hn2, hb2⟩; have HQ2 := Lib.hid (HQ.out.next hb2); have HBk2 := Lib.hid (HBk.out.below hb2 HBk.out.lt); have HS2 := Lib.hid hs2; have HN2 := Lib.hid hn2; clear hs2 hn2 hb2; dsimp only)
            | ((with_reducible show wpList _ _ _ ((⟨some 62, _, _, _, _, _⟩ : Oper) :: _) _ _); refine wpList_pushT (W1 := W1) (o := ⟨some 62, _, _, _, _, _⟩) rfl (.tmp 58) (.tmp 61) rfl rfl _ (L ++ x.tx ++ les x.ix 4) (txt x.sc) rfl HQ2.out A2 mt c2 rfl (by rw [hmt]) HS2.out HN2.out (by rw [← hmt]; omega) ?_; intro v' w' h1 h2 h3))
          have HBk := Lib.hid (h3 _ _ _ (by decide) HBk2.out)
          have HQ := Lib.hid h1
          clear h1 h2 h3 HQ2 HS2 HN2 HBk2
          have hlt3 : (L ++ x.tx ++ les x.ix 4 ++ txt x.sc).length ≤ 3560 := by rw [List.length_append, ← hmt]; omega
          have c34 := HBk.out.cell e34a
          clear c33
          go_wp2_with (first
            | (go_at_call 49; (with_reducible refine (K4.out x.sq _ hsq).mono ?_); rintro e w2 ⟨A2, c2, rfl, hs2, hn2, hb2⟩; have HQ2 := Lib.hid (HQ.out.next hb2); have HBk2 := Lib.hid (HBk.out.below hb2 HBk.out.lt); have HS2 := Lib.hid hs2; have HN2 := Lib.hid hn2; clear hs2 hn2 hb2; dsimp only)
            | ((with_reducible show wpList _ _ _ ((⟨some 68, _, _, _, _, _⟩ : Oper) :: _) _ _); refine wpList_pushT (W1 := W1) (o := ⟨some 68, _, _, _, _, _⟩) rfl (.tmp 63) (.tmp 67) rfl rfl _ (L ++ x.tx ++ les x.ix 4 ++ txt x.sc) (les x.sq 4) rfl HQ2.out A2 4 c2 rfl (by rw [les_len]) HS2.out HN2.out (by rw [les_len]; omega) ?_; intro v' w' h1 h2 h3))
          have HBk := Lib.hid (h3 _ _ _ (by decide) HBk2.out)
          have HQ := Lib.hid h1
          clear h1 h2 h3 HQ2 HS2 HN2 HBk2
          clear c34
          go_roundw
          case rel => exact ⟨i + 1, by omega, by go_num, by rw [HSx.out]; exact HQ.out⟩
          case measure => simp [intOf]; omega
    · obtain rfl : i = n1 := by omega
      rw [HTot.out.1] at hq
      have hbd := HF1.out i (Nat.le_refl _)
      rw [HTot.out.1] at hbd
      obtain ⟨P2, hP2⟩ : ∃ P, P = P1 ++ (t.ins.map inB).flatten := ⟨_, rfl⟩
      have hp2 : P2.length ≤ 3300 := by rw [hP2, List.length_append]; omega
      rw [← hP2] at hq
      have HP2 := Lib.hid hP2
      have HQ := Lib.hid hq
      clear hq hP2 hbd hT0 hT3
      go_upto_region 17 with (first
        | (go_at_call 50; (with_reducible refine (KC.out n2 _ (by omega)).mono ?_); rintro e w2 ⟨A2, c2, rfl, hs2, hn2, hb2⟩; have HQ2 := Lib.hid (HQ.out.next hb2); have HS2 := Lib.hid hs2; have HN2 := Lib.hid hn2; clear hs2 hn2 hb2; dsimp only)
        | ((with_reducible show wpList _ _ _ ((⟨some 75, _, _, _, _, _⟩ : Oper) :: _) _ _); refine wpList_pushT (W1 := W1) (o := ⟨some 75, _, _, _, _, _⟩) rfl (.tmp 69) (.tmp 74) rfl rfl _ (P2) (form n2) rfl HQ2.out A2 1 c2 rfl (by rw [form_small (by omega)]; rfl) HS2.out HN2.out (by rw [form_small (show n2 < 253 by omega)]; simp; omega) ?_; intro v' w' h1 h2 h3))
      have HQ := Lib.hid h1
      clear h1 h2 h3 HQ2 HS2 HN2
      obtain ⟨P3, hP3⟩ : ∃ P, P = P2 ++ form n2 := ⟨_, rfl⟩
      have hp3 : P3.length ≤ 3310 := by rw [hP3, form_small (show n2 < 253 by omega)]; simp; omega
      rw [← hP3] at HQ
      have HP3 := Lib.hid hP3
      clear hP3 hT1 hT2
      go_wp2_with fail
      go_loopw [5, 9] (fun v iv wq => ∃ j : Nat, j ≤ n2 ∧ iv = .int .i64 (j : Int) ∧ LQ W1 v (P3 ++ ((t.outs.take j).map outB).flatten) wq) (fun _ iv _ => n2 - (intOf iv).toNat)
      case atStart => exact ⟨0, Nat.zero_le _, rfl, by simpa using HQ.out⟩
      case round =>
        obtain ⟨j, hj, rfl, hq⟩ := hrel
        clear HQ
        obtain ⟨hT0, hT1, hT2, hT3⟩ := HT.out _ hq.sb
        by_cases hj1 : j < n2
        · have hj2 : (j : Int) < (n2 : Int) := by omega
          obtain ⟨rfl, As, cs, hsl, hsc, hv1, hv2, hR⟩ := HY.out j hj1
          obtain ⟨y, hy⟩ : ∃ y, y = t.outs.getD j Out0 := ⟨_, rfl⟩
          rw [← hy] at hsl hsc hv1 hv2 hR
          have hbd := HF2.out j hj
          obtain ⟨L, hL⟩ : ∃ L, L = P3 ++ ((t.outs.take j).map outB).flatten := ⟨_, rfl⟩
          have hLl : L.length ≤ 6600 := by rw [hL, List.length_append]; omega
          rw [← hL] at hq
          have HSx : Hid (P3 ++ ((t.outs.take (j + 1)).map outB).flatten = L ++ les (uvl y) 8 ++ txt y.sc) := show P3 ++ ((t.outs.take (j + 1)).map outB).flatten = L ++ les (uvl y) 8 ++ txt y.sc by rw [HSu2.out j hj1, ← hy, hL]; simp [outB_uv]
          obtain ⟨hr0, hr1⟩ := hR wr hq.sb
          obtain ⟨ls, hls⟩ : ∃ n, n = y.sc.length := ⟨_, rfl⟩
          rw [← hls] at hsc hsl hr1 hR
          have Hls := Lib.hid hls
          have HR := Lib.hid hR
          have Hsl := Lib.hid hsl
          obtain ⟨z, hz⟩ : ∃ z, z = uvl y := ⟨_, rfl⟩
          rw [← hz] at HSx
          have hzw : IntKind.u64.wrap y.vl = (z : Int) := by rw [hz]; exact uvl_wrap y
          have hzl : z < 18446744073709551616 := by rw [hz]; exact uvl_lt y
          obtain ⟨vl, hvl⟩ : ∃ v, v = y.vl := ⟨_, rfl⟩
          rw [← hvl] at hr0 hzw
          have HQ := Lib.hid hq
          clear hq hy hL hbd hz hvl hls hr1 hR hsl hv1 hv2
          go_upto_region 21 with (first
            | (go_at_call 49; (with_reducible refine (K8.out z _ hzl).mono ?_); rintro e w2 ⟨A2, c2, rfl, hs2, hn2, hb2⟩; have HQ2 := Lib.hid (HQ.out.next hb2); have HS2 := Lib.hid hs2; have HN2 := Lib.hid hn2; clear hs2 hn2 hb2; dsimp only)
            | ((with_reducible show wpList _ _ _ ((⟨some 92, _, _, _, _, _⟩ : Oper) :: _) _ _); refine wpList_pushT (W1 := W1) (o := ⟨some 92, _, _, _, _, _⟩) rfl (.tmp 83) (.tmp 91) rfl rfl _ (L) (les z 8) rfl HQ2.out A2 8 c2 rfl (by rw [les_len]) HS2.out HN2.out (by rw [les_len]; omega) ?_; intro v' w' h1 h2 h3))
          have HQ := Lib.hid h1
          clear h1 h2 h3 HQ2 HS2 HN2
          have hlt2 : (L ++ les z 8).length ≤ 6610 := by rw [List.length_append, les_len]; omega
          clear hT0 hT1 hT2 hT3 hr0 hzw
          obtain ⟨_, hT1, hT2, _⟩ := HT.out _ HQ.out.sb
          have hr1 := (HR.out _ HQ.out.sb).2
          obtain ⟨mt, hmt⟩ : ∃ m, m = (txt y.sc).length := ⟨_, rfl⟩
          have htl := txt_len y.sc
          rw [← hmt, ← Hls.out] at htl
          have KTx := Lib.hid (fun wq (hq : SB W1 wq) => KT.out As y.sc ls mt cs wq Hls.out.symm hmt.symm (sl_rd Hsl.out hq).1 (sl_rd Hsl.out hq).2 (by omega))
          go_wp2_with (first
            | (go_at_call 51; (with_reducible refine (KTx.out _ HQ.out.sb).mono ?_); rintro e w2 ⟨A2, c2, rfl, hs2, hn2, hb2⟩; have HQ2 := Lib.hid (HQ.out.next hb2); have HS2 := Lib.hid hs2; have HN2 := Lib.hid hn2; clear hs2 hn2 hb2; dsimp only)
            | ((with_reducible show wpList _ _ _ ((⟨some 101, _, _, _, _, _⟩ : Oper) :: _) _ _); refine wpList_pushT (W1 := W1) (o := ⟨some 101, _, _, _, _, _⟩) rfl (.tmp 93) (.tmp 100) rfl rfl _ (L ++ les z 8) (txt y.sc) rfl HQ2.out A2 mt c2 rfl (by rw [hmt]) HS2.out HN2.out (by rw [← hmt]; omega) ?_; intro v' w' h1 h2 h3))
          have HQ := Lib.hid h1
          clear h1 h2 h3 HQ2 HS2 HN2
          clear hr1 hT1 hT2
          go_roundw
          case rel => exact ⟨j + 1, by omega, by go_num, by rw [HSx.out]; exact HQ.out⟩
          case measure => simp [intOf]; omega
        · obtain rfl : j = n2 := by omega
          rw [HTot.out.2] at hq
          have hbd := HF2.out j (Nat.le_refl _)
          rw [HTot.out.2] at hbd
          obtain ⟨P4, hP4⟩ : ∃ P, P = P3 ++ (t.outs.map outB).flatten := ⟨_, rfl⟩
          have hp4 : P4.length ≤ 6600 := by rw [hP4, List.length_append]; omega
          rw [← hP4] at hq
          have HP4 := Lib.hid hP4
          have HQ := Lib.hid hq
          clear hq hP4 hbd hT0 hT3
          go_wp2_with fail
          go_loopw [5, 10] (fun v av wq => ∃ a : Nat, a ≤ i ∧ av = .int .i64 (a : Int) ∧ LQ W1 v (P4 ++ ((t.ins.take a).map witB).flatten) wq) (fun _ av _ => i - (intOf av).toNat)
          case atStart => exact ⟨0, Nat.zero_le _, rfl, by simpa using HQ.out⟩
          case round =>
            obtain ⟨a, ha, rfl, hq⟩ := hrel
            clear HQ hT1 hT2
            obtain ⟨hT0, hT1, hT2, hT3⟩ := HT.out _ hq.sb
            by_cases ha1 : a < i
            · have ha2 : (a : Int) < (i : Int) := by omega
              obtain ⟨rfl, As, cs, Aw, cw, wb, wo, hok, hsc, hwt, hR, hk⟩ := HX.out a ha1
              obtain ⟨x, hx⟩ : ∃ x, x = t.ins.getD a In0 := ⟨_, rfl⟩
              rw [← hx] at hok hsc hwt hR hk
              have hbd := HF3.out a ha
              obtain ⟨L, hL⟩ : ∃ L, L = P4 ++ ((t.ins.take a).map witB).flatten := ⟨_, rfl⟩
              have hLl : L.length ≤ 38600 := by rw [hL, List.length_append]; omega
              rw [← hL] at hq
              obtain ⟨lw, hlw⟩ : ∃ n, n = x.wt.length := ⟨_, rfl⟩
              rw [← hlw] at hwt hR hk
              have Hlw := Lib.hid hlw
              have HSx : Hid (P4 ++ ((t.ins.take (a + 1)).map witB).flatten = L ++ form lw ++ (x.wt.map txt).flatten) := show P4 ++ ((t.ins.take (a + 1)).map witB).flatten = L ++ form lw ++ (x.wt.map txt).flatten by rw [HSu3.out a ha1, ← hx, hL, hlw]; simp [witB]
              have HR : Hid (∀ wq, SB W1 wq → wq.cell? ⟨b, o1 + a * 36 + 35, none⟩ = some (.slice Aw lw cw)) := fun wq hq => (hR wq hq).2
              have hr35 := HR.out wr hq.sb
              have HK := Lib.hid hk
              have HQ := Lib.hid hq
              have hwl : IntKind.u64.wrap (lw : Int) = (lw : Int) := by rw [IntKind.wrap_u64]; omega
              have hTx : ∀ u ∈ x.wt, (txt u).length ≤ 137 := fun u hu => by
                obtain ⟨m, hm, rfl⟩ := List.getElem_of_mem hu
                have hmm := (hk m (by omega)).2
                obtain ⟨_, _, _, h128, _⟩ := hmm
                have e : x.wt.getD m [] = x.wt[m] := by simp [List.getD, hm]
                rw [e] at h128
                have := txt_len x.wt[m]
                omega
              have HFw : Hid (∀ k, k ≤ lw → ((x.wt.take k).map txt).flatten.length ≤ 1100) := fun k hkk => by
                have := flat_le txt 137 (x.wt.take k) (take_sub hTx)
                rw [List.length_take, Nat.min_eq_left (by omega)] at this
                have : k * 137 ≤ 8 * 137 := Nat.mul_le_mul_right _ (by omega)
                omega
              have HSw : Hid (∀ k, k < lw → ((x.wt.take (k + 1)).map txt).flatten = ((x.wt.take k).map txt).flatten ++ txt (x.wt.getD k [])) := fun k hkk => flat_succ txt x.wt [] k (by omega)
              have HTw : Hid (x.wt.take lw = x.wt) := show x.wt.take lw = x.wt from List.take_of_length_le (by omega)
              clear hq hok hx hL hbd hlw hR hk hTx
              go_upto_region 26 with (first
                | (go_at_call 50; (with_reducible refine (KC.out lw _ (by omega)).mono ?_); rintro e w2 ⟨A2, c2, rfl, hs2, hn2, hb2⟩; have HQ2 := Lib.hid (HQ.out.next hb2); have HS2 := Lib.hid hs2; have HN2 := Lib.hid hn2; clear hs2 hn2 hb2; dsimp only)
                | ((with_reducible show wpList _ _ _ ((⟨some 122, _, _, _, _, _⟩ : Oper) :: _) _ _); refine wpList_pushT (W1 := W1) (o := ⟨some 122, _, _, _, _, _⟩) rfl (.tmp 112) (.tmp 121) rfl rfl _ (L) (form lw) rfl HQ2.out A2 1 c2 rfl (by rw [form_small (by omega)]; rfl) HS2.out HN2.out (by rw [form_small (show lw < 253 by omega)]; simp; omega) ?_; intro v' w' h1 h2 h3))
              have HQ := Lib.hid h1
              clear h1 h2 h3 HQ2 HS2 HN2
              obtain ⟨P5, hP5⟩ : ∃ P, P = L ++ form lw := ⟨_, rfl⟩
              have hp5 : P5.length ≤ 38610 := by rw [hP5, form_small (show lw < 253 by omega)]; simp; omega
              rw [← hP5] at HQ HSx
              clear hP5 hr35 hwl hT0 hT1 hT2 hT3
              go_wp2_with fail
              go_loopw [5, 11] (fun v kv wq => ∃ k : Nat, k ≤ lw ∧ kv = .int .i64 (k : Int) ∧ LQ W1 v (P5 ++ ((x.wt.take k).map txt).flatten) wq) (fun _ kv _ => lw - (intOf kv).toNat)
              case atStart => exact ⟨0, Nat.zero_le _, rfl, by simpa using HQ.out⟩
              case round =>
                obtain ⟨k, hk, rfl, hq⟩ := hrel
                clear HQ
                obtain ⟨_, hT1, _, _⟩ := HT.out _ hq.sb
                have hr35 := HR.out wr hq.sb
                by_cases hk1 : k < lw
                · have hk2 : (k : Int) < (lw : Int) := by omega
                  obtain ⟨rfl, At, ct, hsl, h128, hcl⟩ := HK.out k hk1
                  obtain ⟨u, hu⟩ : ∃ u, u = x.wt.getD k [] := ⟨_, rfl⟩
                  rw [← hu] at hsl h128 hcl
                  have hcu := hcl wr hq.sb
                  have hbd := HFw.out k hk
                  obtain ⟨Lk, hLk⟩ : ∃ L, L = P5 ++ ((x.wt.take k).map txt).flatten := ⟨_, rfl⟩
                  have hLl : Lk.length ≤ 39800 := by rw [hLk, List.length_append]; omega
                  rw [← hLk] at hq
                  have HSy : Hid (P5 ++ ((x.wt.take (k + 1)).map txt).flatten = Lk ++ txt u) := show P5 ++ ((x.wt.take (k + 1)).map txt).flatten = Lk ++ txt u by rw [HSw.out k hk1, ← hu, hLk]; simp
                  obtain ⟨lu, hlu⟩ : ∃ n, n = u.length := ⟨_, rfl⟩
                  rw [← hlu] at hsl h128 hcu
                  have Hlu := Lib.hid hlu
                  have Hsl := Lib.hid hsl
                  have HQ := Lib.hid hq
                  obtain ⟨mt, hmt⟩ : ∃ m, m = (txt u).length := ⟨_, rfl⟩
                  have htl := txt_len u
                  rw [← hmt, ← hlu] at htl
                  have KTx := Lib.hid (fun wq (hq : SB W1 wq) => KT.out At u lu mt ct wq Hlu.out.symm hmt.symm (sl_rd Hsl.out hq).1 (sl_rd Hsl.out hq).2 (by omega))
                  clear hq hu hLk hbd hlu hsl hcl
                  go_wp2_with (first
                    | (go_at_call 51; (with_reducible refine (KTx.out _ HQ.out.sb).mono ?_); rintro e w2 ⟨A2, c2, rfl, hs2, hn2, hb2⟩; have HQ2 := Lib.hid (HQ.out.next hb2); have HS2 := Lib.hid hs2; have HN2 := Lib.hid hn2; clear hs2 hn2 hb2; dsimp only)
                    | ((with_reducible show wpList _ _ _ ((⟨some 145, _, _, _, _, _⟩ : Oper) :: _) _ _); refine wpList_pushT (W1 := W1) (o := ⟨some 145, _, _, _, _, _⟩) rfl (.tmp 134) (.tmp 144) rfl rfl _ (Lk) (txt u) rfl HQ2.out A2 mt c2 rfl (by rw [hmt]) HS2.out HN2.out (by rw [← hmt]; omega) ?_; intro v' w' h1 h2 h3))
                  have HQ := Lib.hid h1
                  clear h1 h2 h3 HQ2 HS2 HN2
                  clear hcu hr35 hT1
                  go_roundw
                  case rel => exact ⟨k + 1, by omega, by go_num, by rw [HSy.out]; exact HQ.out⟩
                  case measure => simp [intOf]; omega
                · obtain rfl : k = lw := by omega
                  rw [HTw.out] at hq
                  have HQ := Lib.hid hq
                  clear hq
                  go_wp2_with fail
                  go_roundw
                  case rel => exact ⟨a + 1, by omega, by go_num, by rw [HSx.out]; exact HQ.out⟩
                  case measure => simp [intOf]; omega
            · obtain rfl : a = i := by omega
              rw [HTot.out.1] at hq
              have hbd := HF3.out a (Nat.le_refl _)
              rw [HTot.out.1] at hbd
              obtain ⟨P6, hP6⟩ : ∃ P, P = P4 ++ (t.ins.map witB).flatten := ⟨_, rfl⟩
              have hp6 : P6.length ≤ 38600 := by rw [hP6, List.length_append]; omega
              rw [← hP6] at hq
              have HP6 : Hid (P6 = P4 ++ witsB t.ins) := hP6
              have HQ := Lib.hid hq
              clear hq hP6 hbd
              go_wp2_with (first
                | (go_at_call 49; (with_reducible refine (K4.out lock _ Hlk.out).mono ?_); rintro e w2 ⟨A2, c2, rfl, hs2, hn2, hb2⟩; have HQ2 := Lib.hid (HQ.out.next hb2); have HS2 := Lib.hid hs2; have HN2 := Lib.hid hn2; clear hs2 hn2 hb2; dsimp only)
                | ((with_reducible show wpList _ _ _ ((⟨some 151, _, _, _, _, _⟩ : Oper) :: _) _ _); refine wpList_pushT (W1 := W1) (o := ⟨some 151, _, _, _, _, _⟩) rfl (.tmp 146) (.tmp 150) rfl rfl _ (P6) (les lock 4) rfl HQ2.out A2 4 c2 rfl (by rw [les_len]) HS2.out HN2.out (by rw [les_len]; omega) ?_; intro v' w' h1 h2 h3))
              have HQ := Lib.hid h1
              clear h1 h2 h3 HQ2 HS2 HN2
              go_ret
              exact ⟨_, rfl, by rw [HLay.out, ← HP0.out, ← HP1.out, ← HP2.out, ← HP3.out, ← HP4.out, ← HP6.out]; exact HQ.out.ob.base Hb1.out.size, Hb1.out.trans (Below.mono HQ.out.sb Hb1.out.size)⟩
end Go.Proofs.YtnkkhmgplpkjbaaDoor
