/- What tx.written returns: the bytes of a transaction. -/
import Derived.Test.YtnkkhmgplpkjbaaDoorLk
import Derived.Outline
namespace Go.Proofs.YtnkkhmgplpkjbaaDoor
open Go.RowKit
set_option linter.unusedVariables false
set_option linter.unusedSimpArgs false
set_option maxRecDepth 100000
theorem form_len9 (n : Nat) : (form n).length ≤ 9 := by rw [form_len]; have := wid_le n; omega
set_option maxHeartbeats 8000000 in
theorem written_true (t : TTx) (i o : Value) (w : World) (h : TxOk w w.heap.size t i o) (hc : chk t = 0) : Calls Tryd.prog 48 #[txV t i o, .bool true] w (LaidPost (layB t true) w) := by
  obtain ⟨hins, houts, hver, hlock⟩ := h
  obtain ⟨z1, z2, z3, z4, z5, _, _⟩ := chk_zero hc
  have hins' := hins
  have houts' := houts
  obtain ⟨A1, c1, rfl, _, _, r1⟩ := hins
  obtain ⟨A2, c2, rfl, _, _, r2⟩ := houts
  obtain ⟨n1, hn1⟩ : ∃ n, n = t.ins.length := ⟨_, rfl⟩
  obtain ⟨n2, hn2⟩ : ∃ n, n = t.outs.length := ⟨_, rfl⟩
  obtain ⟨ver, hv⟩ : ∃ n, n = t.ver := ⟨_, rfl⟩
  obtain ⟨lock, hlk⟩ : ∃ n, n = t.lock := ⟨_, rfl⟩
  have K1 := Lib.hid (fun wq => number_any 4 ver wq rfl (by rw [hv]; simpa using hver) (by omega))
  have KL := Lib.hid (fun wq => num4_w lock wq (by omega))
  have hwv : IntKind.u64.wrap (ver : Int) = (ver : Int) := by rw [IntKind.wrap_u64]; omega
  have hwl : IntKind.u64.wrap (lock : Int) = (lock : Int) := by rw [IntKind.wrap_u64]; omega
  have hn16 : n1 ≤ 16 := by omega
  have hn26 : n2 ≤ 16 := by omega
  obtain ⟨XB, hXB⟩ : ∃ L, L = (t.ins.map inB).flatten := ⟨_, rfl⟩
  obtain ⟨YB, hYB⟩ : ∃ L, L = (t.outs.map outB).flatten := ⟨_, rfl⟩
  have hXl : XB.length ≤ 3200 := by
    obtain ⟨_, _, b, o, _, _, hj⟩ := Row.open hins'
    have := flat_le inB 200 t.ins fun x hx => by
      obtain ⟨k, hk, rfl⟩ := List.getElem_of_mem hx
      obtain ⟨_, s, u, _, _, _, h32, _, _⟩ := hj k hk
      have e : t.ins.getD k In0 = t.ins[k] := by simp [List.getD, hk]
      rw [e] at h32
      exact inB_le (z3 _ hx) h32
    rw [← hXB] at this
    omega
  have hYl : YB.length ≤ 3200 := by
    have := flat_le outB 200 t.outs fun x hx => outB_le (z5 x hx)
    rw [← hYB] at this
    omega
  have hWl : (witsB t.ins).length ≤ 32000 := by
    have := flat_le witB 2000 t.ins (witB_le z4)
    unfold witsB
    omega
  rw [← hn1] at hins'
  rw [← hn2] at houts'
  have HI := Lib.hid hins'
  have HO := Lib.hid houts'
  have HE := Lib.hid (⟨hn1, hn2⟩ : n1 = t.ins.length ∧ n2 = t.outs.length)
  have HZ := Lib.hid (⟨z3, z4, z5⟩ : (∀ x ∈ t.ins, x.sc.length ≤ 128) ∧ WitOk t.ins ∧ (∀ y ∈ t.outs, y.sc.length ≤ 128))
  obtain ⟨LB, hLB⟩ : ∃ L, L = layB t true := ⟨_, rfl⟩
  have HLB : Hid (LB = les ver 4 ++ [0, 1] ++ form n1 ++ XB ++ form n2 ++ YB ++ witsB t.ins ++ les lock 4) := show LB = les ver 4 ++ [0, 1] ++ form n1 ++ XB ++ form n2 ++ YB ++ witsB t.ins ++ les lock 4 by rw [hLB, hXB, hYB, hn1, hn2, hv, hlk]; simp [layB]
  have HXB := Lib.hid hXB
  have HYB := Lib.hid hYB
  unfold txV
  rw [← hLB, ← hv, ← hlk, ← hn1, ← hn2]
  clear r1 r2 hins' houts' hn1 hn2 hv hlk z1 z2 z3 z4 z5 hc hver hlock hLB hXB hYB
  obtain ⟨m1, hm1⟩ : ∃ m, m = (form n1).length := ⟨_, rfl⟩
  obtain ⟨m2, hm2⟩ : ∃ m, m = (form n2).length := ⟨_, rfl⟩
  have hm1l : m1 ≤ 9 := by rw [hm1]; exact form_len9 _
  have hm2l : m2 ≤ 9 := by rw [hm2]; exact form_len9 _
  have KC1 := Lib.hid (fun wq => count_w n1 m1 wq (by omega) hm1.symm)
  have KC2 := Lib.hid (fun wq => count_w n2 m2 wq (by omega) hm2.symm)
  have Hm1 := Lib.hid hm1
  have Hm2 := Lib.hid hm2
  clear hm1 hm2
  go_enter Tryd.func48, Tryd.ntmps48
  go_upto_region 2 with (go_at_call 67; (refine (K1.out _).mono ?_); rintro e w2 ⟨v, rfl, ho, hb2⟩; obtain ⟨Av, cv, rfl, hrv, hcv⟩ := slice_form ho; dsimp only)
  obtain ⟨B, hBdef⟩ : ∃ B, B = (w.alloc (.cells #[.int .u32 (ver : Int), .slice A1 n1 c1, .slice A2 n2 c2, .int .u32 (lock : Int)] 26)).heap.size := ⟨_, rfl⟩
  have hb1 : Below w.heap.size w (w.alloc (.cells #[.int .u32 (ver : Int), .slice A1 n1 c1, .slice A2 n2 c2, .int .u32 (lock : Int)] 26)) := (Below.refl _ _).alloc (Nat.le_refl _) _
  have hlt : w.heap.size < B := by rw [hBdef]; simp
  have hT1 : (w.alloc (.cells #[.int .u32 (ver : Int), .slice A1 n1 c1, .slice A2 n2 c2, .int .u32 (lock : Int)] 26)).cell? ⟨w.heap.size, 1, none⟩ = some (.slice A1 n1 c1) := cell_new rfl rfl
  have hT2 : (w.alloc (.cells #[.int .u32 (ver : Int), .slice A1 n1 c1, .slice A2 n2 c2, .int .u32 (lock : Int)] 26)).cell? ⟨w.heap.size, 2, none⟩ = some (.slice A2 n2 c2) := cell_new rfl rfl
  have hT3 : (w.alloc (.cells #[.int .u32 (ver : Int), .slice A1 n1 c1, .slice A2 n2 c2, .int .u32 (lock : Int)] 26)).cell? ⟨w.heap.size, 3, none⟩ = some (.int .u32 (lock : Int)) := cell_new rfl rfl
  have hI1 := (HI.out.keep hb1 (Nat.le_refl _)).up (Nat.le_of_lt hlt)
  have hO1 := (HO.out.keep hb1 (Nat.le_refl _)).up (Nat.le_of_lt hlt)
  rw [← hBdef] at ho hb2
  have hBs := hBdef
  generalize w.alloc (.cells #[.int .u32 (ver : Int), .slice A1 n1 c1, .slice A2 n2 c2, .int .u32 (lock : Int)] 26) = w1 at hb1 hT1 hT2 hT3 hI1 hO1 ho hb2 hBdef hBs
  have HT : Hid (∀ wq, Below B w1 wq → wq.cell? ⟨w.heap.size, 1, none⟩ = some (.slice A1 n1 c1) ∧ wq.cell? ⟨w.heap.size, 2, none⟩ = some (.slice A2 n2 c2) ∧ wq.cell? ⟨w.heap.size, 3, none⟩ = some (.int .u32 (lock : Int))) := fun wq hq =>
    ⟨by rw [hq.cell (p := ⟨w.heap.size, 1, none⟩) hlt]; exact hT1, by rw [hq.cell (p := ⟨w.heap.size, 2, none⟩) hlt]; exact hT2, by rw [hq.cell (p := ⟨w.heap.size, 3, none⟩) hlt]; exact hT3⟩
  have hC : CapV w1 B w2.heap.size (.slice Av (les ver 4).length cv) (w2.alloc (.cells #[.slice Av (les ver 4).length cv] 27)) (les ver 4) :=
    ⟨Blk.new w2 27 #[.slice Av (les ver 4).length cv], ho.alloc _, hb2.alloc (by rw [hBdef]; exact hb2.size) _, by rw [hBdef]; exact hb2.size, by rw [hBdef]; exact Nat.le_refl _⟩
  obtain ⟨L0, hL0⟩ : ∃ L, L = les ver 4 := ⟨_, rfl⟩
  have hl0 : L0.length ≤ 4 := by rw [hL0, les_len]; exact Nat.le_refl _
  have HL0 := Lib.hid hL0
  rw [← hL0] at hC ⊢
  generalize w2.alloc (.cells #[.slice Av L0.length cv] 27) = w3 at hC ⊢
  generalize w2.heap.size = cb at hC ⊢
  generalize L0.length = lv at hC ⊢
  have Hb1 := Lib.hid hb1
  have HI1 := Lib.hid hI1
  have HO1 := Lib.hid hO1
  have HBs := Lib.hid hBs
  clear ho hb2 hrv hcv hT1 hT2 hT3 hI1 hO1 hb1 hBdef hBs hL0 hwv K1 HI HO
  have cc0 := hC.blk.cell (j := 0) rfl
  have HC := Lib.hid hC
  clear hC
  go_upto_region 4 with (((with_reducible show wpList _ _ _ ((⟨some 12, _, _, _, _, _⟩ : Oper) :: _) _ _); refine wpList_pushS (o := ⟨some 12, _, _, _, _, _⟩) rfl (.tmp 11) (.const _) rfl rfl B (.slice Av lv cv) L0 rfl HC.out.ob rfl (by omega) HC.out.hB ?_; intro va wa h1 h2; obtain ⟨ca, fa, hC, Axs, lxs, cxs, rfl⟩ := CapV.app HC.out h1 h2))
  generalize wa.setCell ⟨cb, 0, none⟩ (.slice Axs lxs cxs) = w4 at hC ⊢
  clear ca fa h1 h2 cc0 HC
  obtain ⟨La, hLa⟩ : ∃ M, M = L0 ++ [0, 1] := ⟨_, rfl⟩
  have hla : La.length ≤ 6 := by rw [hLa, List.length_append]; simp; omega
  have HLa := Lib.hid hLa
  rw [← hLa] at hC
  clear hLa
  generalize hWd : w4.drew = Wd
  have hCd : CapV w1 B cb (.slice Axs lxs cxs) Wd La := by rw [← hWd]; exact hC.drew
  have EC : Hid (∀ wq, SB Wd wq → wq.cell? ⟨cb, 0, none⟩ = some (.slice Axs lxs cxs)) := fun wq hq => hq.cell (hCd.blk.cell rfl)
  have EX : Hid (∀ wq, SB Wd wq → wq.cell? ⟨w.heap.size, 1, none⟩ = some (.slice A1 n1 c1)) := fun wq hq => hq.cell (HT.out Wd hCd.bel).1
  have HCd := Lib.hid hCd
  clear hCd hC
  refine wp_region_to (z := 5) (SB Wd) (by kernel_rfl) ?_
  rw [hWd]
  have hS : SB Wd Wd := SB.refl Wd
  clear hWd
  refine AnyTo.take (i := 0) (v := (.slice Axs lxs cxs)) rfl (by kernel_rfl) (by kernel_rfl) (by kernel_rfl) (by kernel_rfl) (by kernel_rfl) (fun _ _ _ h => h) (Or.inl ⟨by rfl, ?_⟩) hS ?_
  · intro wq hq
    have dq0 := EC.out wq hq
    go_simp
  try simp only [Act.put, List.setIfInBounds_toArray, List.set_cons_zero, List.set_cons_succ, List.getElem_toArray, List.getElem_cons_zero, List.getElem_cons_succ]
  refine AnyTo.take (i := 1) (v := ?_) rfl (by kernel_rfl) (by kernel_rfl) (by kernel_rfl) (by kernel_rfl) (by kernel_rfl) (fun _ _ _ h => h) (Or.inl ⟨by rfl, ?_⟩) hS ?_
  rotate_left
  · (intro wq hq; go_simp; try with_reducible rfl)
  try simp only [Act.put, List.setIfInBounds_toArray, List.set_cons_zero, List.set_cons_succ, List.getElem_toArray, List.getElem_cons_zero, List.getElem_cons_succ]
  refine AnyTo.take (i := 2) (v := .slice A1 n1 c1) rfl (by kernel_rfl) (by kernel_rfl) (by kernel_rfl) (by kernel_rfl) (by kernel_rfl) (fun _ _ _ h => h) (Or.inl ⟨by rfl, ?_⟩) hS ?_
  · intro wq hq
    have dq0 := EX.out wq hq
    go_simp
  try simp only [Act.put, List.setIfInBounds_toArray, List.set_cons_zero, List.set_cons_succ, List.getElem_toArray, List.getElem_cons_zero, List.getElem_cons_succ]
  refine AnyTo.take (i := 3) (v := ?_) rfl (by kernel_rfl) (by kernel_rfl) (by kernel_rfl) (by kernel_rfl) (by kernel_rfl) (fun _ _ _ h => h) (Or.inl ⟨by rfl, ?_⟩) hS ?_
  rotate_left
  · (intro wq hq; go_simp; try with_reducible rfl)
  try simp only [Act.put, List.setIfInBounds_toArray, List.set_cons_zero, List.set_cons_succ, List.getElem_toArray, List.getElem_cons_zero, List.getElem_cons_succ]
  have HCa := HCd.out
  refine AnyTo.gone (i := 4) (by kernel_rfl) rfl (by rfl) (fun K hK => ?_)
  go_simp
  (with_reducible refine (KC1.out _).mono ?_)
  rintro e wc ⟨Ac, cc, rfl, hsr, hcc, hbc⟩
  have hS : SB Wd wc := SB.next (SB.refl Wd) hbc
  have HCa := HCa.next hbc
  dsimp only
  refine hK _ _ (fun _ => hS) ?_
  clear hK K
  try simp only [Act.put, List.setIfInBounds_toArray, List.set_cons_zero, List.set_cons_succ, List.getElem_toArray, List.getElem_cons_zero, List.getElem_cons_succ]
  refine AnyTo.gone (i := 5) (by kernel_rfl) rfl (by rfl) (fun K hK => ?_)
  refine wp_app (.tmp 13) (.tmp 17) rfl rfl B (.slice Axs lxs cxs) La.length (vbs La) rfl HCa.ob Ac m1 cc (vbs (form n1)) rfl hsr hcc (by omega) HCa.hB ?_
  intro vb wa h1 h2
  obtain ⟨ca, fa, hC, Axb, lxb, cxb, rfl⟩ := CapV.app HCa h1 h2
  refine hK _ _ (fun h => absurd h (by decide)) ?_
  clear hK K
  try simp only [Act.put, List.setIfInBounds_toArray, List.set_cons_zero, List.set_cons_succ, List.getElem_toArray, List.getElem_cons_zero, List.getElem_cons_succ]
  refine AnyTo.gone (i := 6) (by kernel_rfl) rfl (by rfl) (fun K hK => ?_)
  go_simp
  refine hK _ _ (fun h => absurd h (by decide)) ?_
  clear hK K
  try simp only [Act.put, List.setIfInBounds_toArray, List.set_cons_zero, List.set_cons_succ, List.getElem_toArray, List.getElem_cons_zero, List.getElem_cons_succ]
  refine AnyTo.done (by kernel_rfl) ?_ _
  try dsimp only [Exit.then]
  generalize wa.setCell ⟨cb, 0, none⟩ (.slice Axb lxb cxb) = wb at hC ⊢
  clear ca fa h1 h2 HCa HCd EC
  clear EX hsr hcc hbc hS
  obtain ⟨Lb, hLb⟩ : ∃ M, M = La ++ form n1 := ⟨_, rfl⟩
  have hlLb : Lb.length ≤ 16 := by rw [hLb, List.length_append]; rw [← Hm1.out]; omega
  have HLb := Lib.hid hLb
  rw [← hLb] at hC
  clear hLb
  have KE := Lib.hid (ins_wr t.ins A1 n1 c1 B cb w1 wb _ Lb HE.out.1 HI1.out hn16 HZ.out.1 (by omega) hC)
  rw [← HXB.out] at KE
  have c1' := (HT.out wb hC.bel).1
  clear hC
  go_upto_region 6 with (go_at_call 69; (with_reducible refine KE.out.mono ?_); rintro e w5 ⟨rfl, v5, hC⟩; obtain ⟨A5, c5, rfl, _, _⟩ := slice_form hC.ob; dsimp only)
  clear KE c1'
  obtain ⟨Lc, hLc⟩ : ∃ M, M = Lb ++ XB := ⟨_, rfl⟩
  have hlLc : Lc.length ≤ 3300 := by rw [hLc, List.length_append]; omega
  have HLc := Lib.hid hLc
  rw [← hLc] at hC
  clear hLc
  generalize Lc.length = l5 at hC
  generalize hWd : w5.drew = Wd
  have hCd : CapV w1 B cb (.slice A5 l5 c5) Wd Lc := by rw [← hWd]; exact hC.drew
  have EC : Hid (∀ wq, SB Wd wq → wq.cell? ⟨cb, 0, none⟩ = some (.slice A5 l5 c5)) := fun wq hq => hq.cell (hCd.blk.cell rfl)
  have EX : Hid (∀ wq, SB Wd wq → wq.cell? ⟨w.heap.size, 2, none⟩ = some (.slice A2 n2 c2)) := fun wq hq => hq.cell (HT.out Wd hCd.bel).2.1
  have HCd := Lib.hid hCd
  clear hCd hC
  refine wp_region_to (z := 5) (SB Wd) (by kernel_rfl) ?_
  rw [hWd]
  have hS : SB Wd Wd := SB.refl Wd
  clear hWd
  refine AnyTo.take (i := 0) (v := (.slice A5 l5 c5)) rfl (by kernel_rfl) (by kernel_rfl) (by kernel_rfl) (by kernel_rfl) (by kernel_rfl) (fun _ _ _ h => h) (Or.inl ⟨by rfl, ?_⟩) hS ?_
  · intro wq hq
    have dq0 := EC.out wq hq
    go_simp
  try simp only [Act.put, List.setIfInBounds_toArray, List.set_cons_zero, List.set_cons_succ, List.getElem_toArray, List.getElem_cons_zero, List.getElem_cons_succ]
  refine AnyTo.take (i := 1) (v := ?_) rfl (by kernel_rfl) (by kernel_rfl) (by kernel_rfl) (by kernel_rfl) (by kernel_rfl) (fun _ _ _ h => h) (Or.inl ⟨by rfl, ?_⟩) hS ?_
  rotate_left
  · (intro wq hq; go_simp; try with_reducible rfl)
  try simp only [Act.put, List.setIfInBounds_toArray, List.set_cons_zero, List.set_cons_succ, List.getElem_toArray, List.getElem_cons_zero, List.getElem_cons_succ]
  refine AnyTo.take (i := 2) (v := .slice A2 n2 c2) rfl (by kernel_rfl) (by kernel_rfl) (by kernel_rfl) (by kernel_rfl) (by kernel_rfl) (fun _ _ _ h => h) (Or.inl ⟨by rfl, ?_⟩) hS ?_
  · intro wq hq
    have dq0 := EX.out wq hq
    go_simp
  try simp only [Act.put, List.setIfInBounds_toArray, List.set_cons_zero, List.set_cons_succ, List.getElem_toArray, List.getElem_cons_zero, List.getElem_cons_succ]
  refine AnyTo.take (i := 3) (v := ?_) rfl (by kernel_rfl) (by kernel_rfl) (by kernel_rfl) (by kernel_rfl) (by kernel_rfl) (fun _ _ _ h => h) (Or.inl ⟨by rfl, ?_⟩) hS ?_
  rotate_left
  · (intro wq hq; go_simp; try with_reducible rfl)
  try simp only [Act.put, List.setIfInBounds_toArray, List.set_cons_zero, List.set_cons_succ, List.getElem_toArray, List.getElem_cons_zero, List.getElem_cons_succ]
  have HCa := HCd.out
  refine AnyTo.gone (i := 4) (by kernel_rfl) rfl (by rfl) (fun K hK => ?_)
  go_simp
  (with_reducible refine (KC2.out _).mono ?_)
  rintro e wc ⟨Ac, cc, rfl, hsr, hcc, hbc⟩
  have hS : SB Wd wc := SB.next (SB.refl Wd) hbc
  have HCa := HCa.next hbc
  dsimp only
  refine hK _ _ (fun _ => hS) ?_
  clear hK K
  try simp only [Act.put, List.setIfInBounds_toArray, List.set_cons_zero, List.set_cons_succ, List.getElem_toArray, List.getElem_cons_zero, List.getElem_cons_succ]
  refine AnyTo.gone (i := 5) (by kernel_rfl) rfl (by rfl) (fun K hK => ?_)
  refine wp_app (.tmp 23) (.tmp 27) rfl rfl B (.slice A5 l5 c5) Lc.length (vbs Lc) rfl HCa.ob Ac m2 cc (vbs (form n2)) rfl hsr hcc (by omega) HCa.hB ?_
  intro vd wa h1 h2
  obtain ⟨ca, fa, hC, Axd, lxd, cxd, rfl⟩ := CapV.app HCa h1 h2
  refine hK _ _ (fun h => absurd h (by decide)) ?_
  clear hK K
  try simp only [Act.put, List.setIfInBounds_toArray, List.set_cons_zero, List.set_cons_succ, List.getElem_toArray, List.getElem_cons_zero, List.getElem_cons_succ]
  refine AnyTo.gone (i := 6) (by kernel_rfl) rfl (by rfl) (fun K hK => ?_)
  go_simp
  refine hK _ _ (fun h => absurd h (by decide)) ?_
  clear hK K
  try simp only [Act.put, List.setIfInBounds_toArray, List.set_cons_zero, List.set_cons_succ, List.getElem_toArray, List.getElem_cons_zero, List.getElem_cons_succ]
  refine AnyTo.done (by kernel_rfl) ?_ _
  try dsimp only [Exit.then]
  generalize wa.setCell ⟨cb, 0, none⟩ (.slice Axd lxd cxd) = wd at hC ⊢
  clear ca fa h1 h2 HCa HCd EC
  clear EX hsr hcc hbc hS
  obtain ⟨Ld, hLd⟩ : ∃ M, M = Lc ++ form n2 := ⟨_, rfl⟩
  have hlLd : Ld.length ≤ 3400 := by rw [hLd, List.length_append]; rw [← Hm2.out]; omega
  have HLd := Lib.hid hLd
  rw [← hLd] at hC
  clear hLd
  have KE := Lib.hid (outs_wr t.outs A2 n2 c2 B cb w1 wd _ Ld HE.out.2 HO1.out hn26 HZ.out.2.2 (by omega) hC)
  rw [← HYB.out] at KE
  have c2' := (HT.out wd hC.bel).2.1
  clear hC
  go_upto_region 8 with (go_at_call 72; (with_reducible refine KE.out.mono ?_); rintro e w6 ⟨rfl, v6, hC⟩; obtain ⟨A6, c6, rfl, _, _⟩ := slice_form hC.ob; dsimp only)
  clear KE c2'
  obtain ⟨Le, hLe⟩ : ∃ M, M = Ld ++ YB := ⟨_, rfl⟩
  have hlLe : Le.length ≤ 6700 := by rw [hLe, List.length_append]; omega
  have HLe := Lib.hid hLe
  rw [← hLe] at hC
  clear hLe
  generalize Le.length = l6 at hC
  obtain ⟨mw, hmw⟩ : ∃ m, m = (witsB t.ins).length := ⟨_, rfl⟩
  have KW : Hid (∀ wq, Below B w1 wq → B ≤ wq.heap.size → Calls Tryd.prog 74 #[.slice A1 n1 c1] wq fun e w' => ∃ A' c', e = .returned (.slice A' mw c') ∧ Src22 w' A' mw (vbs (witsB t.ins)) ∧ (A' = none → c' = 0) ∧ Below wq.heap.size wq w') := fun wq hq hB =>
    wits_w t.ins A1 n1 c1 mw wq ((HI1.out.keep hq (Nat.le_refl _)).up hB) (by rw [← HE.out.1]; exact hn16) HZ.out.2.1 hmw.symm
  obtain ⟨WB, hWB⟩ : ∃ L, L = witsB t.ins := ⟨_, rfl⟩
  rw [← hWB] at KW HLB hmw hWl
  have Hmw := Lib.hid hmw
  clear hWB hmw
  go_upto_region 9 with fail
  generalize hWd : w6.drew = Wd
  have hCd : CapV w1 B cb (.slice A6 l6 c6) Wd Le := by rw [← hWd]; exact hC.drew
  have EC : Hid (∀ wq, SB Wd wq → wq.cell? ⟨cb, 0, none⟩ = some (.slice A6 l6 c6)) := fun wq hq => hq.cell (hCd.blk.cell rfl)
  have EX : Hid (∀ wq, SB Wd wq → wq.cell? ⟨w.heap.size, 1, none⟩ = some (.slice A1 n1 c1)) := fun wq hq => hq.cell (HT.out Wd hCd.bel).1
  have HCd := Lib.hid hCd
  clear hCd hC
  refine wp_region_to (z := 4) (SB Wd) (by kernel_rfl) ?_
  rw [hWd]
  have hS : SB Wd Wd := SB.refl Wd
  clear hWd
  refine AnyTo.take (i := 0) (v := (.slice A6 l6 c6)) rfl (by kernel_rfl) (by kernel_rfl) (by kernel_rfl) (by kernel_rfl) (by kernel_rfl) (fun _ _ _ h => h) (Or.inl ⟨by rfl, ?_⟩) hS ?_
  · intro wq hq
    have dq0 := EC.out wq hq
    go_simp
  try simp only [Act.put, List.setIfInBounds_toArray, List.set_cons_zero, List.set_cons_succ, List.getElem_toArray, List.getElem_cons_zero, List.getElem_cons_succ]
  refine AnyTo.take (i := 1) (v := ?_) rfl (by kernel_rfl) (by kernel_rfl) (by kernel_rfl) (by kernel_rfl) (by kernel_rfl) (fun _ _ _ h => h) (Or.inl ⟨by rfl, ?_⟩) hS ?_
  rotate_left
  · (intro wq hq; go_simp; try with_reducible rfl)
  try simp only [Act.put, List.setIfInBounds_toArray, List.set_cons_zero, List.set_cons_succ, List.getElem_toArray, List.getElem_cons_zero, List.getElem_cons_succ]
  refine AnyTo.take (i := 2) (v := .slice A1 n1 c1) rfl (by kernel_rfl) (by kernel_rfl) (by kernel_rfl) (by kernel_rfl) (by kernel_rfl) (fun _ _ _ h => h) (Or.inl ⟨by rfl, ?_⟩) hS ?_
  · intro wq hq
    have dq0 := EX.out wq hq
    go_simp
  try simp only [Act.put, List.setIfInBounds_toArray, List.set_cons_zero, List.set_cons_succ, List.getElem_toArray, List.getElem_cons_zero, List.getElem_cons_succ]
  have HCa := HCd.out
  refine AnyTo.gone (i := 3) (by kernel_rfl) rfl (by rfl) (fun K hK => ?_)
  go_simp
  (with_reducible refine (KW.out _ HCa.bel HCa.hB).mono ?_)
  rintro e wc ⟨Ac, cc, rfl, hsr, hcc, hbc⟩
  have hS : SB Wd wc := SB.next (SB.refl Wd) hbc
  have HCa := HCa.next hbc
  dsimp only
  refine hK _ _ (fun _ => hS) ?_
  clear hK K
  try simp only [Act.put, List.setIfInBounds_toArray, List.set_cons_zero, List.set_cons_succ, List.getElem_toArray, List.getElem_cons_zero, List.getElem_cons_succ]
  refine AnyTo.gone (i := 4) (by kernel_rfl) rfl (by rfl) (fun K hK => ?_)
  refine wp_app (.tmp 34) (.tmp 37) rfl rfl B (.slice A6 l6 c6) Le.length (vbs Le) rfl HCa.ob Ac mw cc (vbs WB) rfl hsr hcc (by rw [Hmw.out]; omega) HCa.hB ?_
  intro vf wa h1 h2
  obtain ⟨ca, fa, hC, Axf, lxf, cxf, rfl⟩ := CapV.app HCa h1 h2
  refine hK _ _ (fun h => absurd h (by decide)) ?_
  clear hK K
  try simp only [Act.put, List.setIfInBounds_toArray, List.set_cons_zero, List.set_cons_succ, List.getElem_toArray, List.getElem_cons_zero, List.getElem_cons_succ]
  refine AnyTo.gone (i := 5) (by kernel_rfl) rfl (by rfl) (fun K hK => ?_)
  go_simp
  refine hK _ _ (fun h => absurd h (by decide)) ?_
  clear hK K
  try simp only [Act.put, List.setIfInBounds_toArray, List.set_cons_zero, List.set_cons_succ, List.getElem_toArray, List.getElem_cons_zero, List.getElem_cons_succ]
  refine AnyTo.done (by kernel_rfl) ?_ _
  try dsimp only [Exit.then]
  generalize wa.setCell ⟨cb, 0, none⟩ (.slice Axf lxf cxf) = wf at hC ⊢
  clear ca fa h1 h2 HCa HCd EC
  clear EX hsr hcc hbc hS
  obtain ⟨Lf, hLf⟩ : ∃ M, M = Le ++ WB := ⟨_, rfl⟩
  have hlLf : Lf.length ≤ 40000 := by rw [hLf, List.length_append]; omega
  have HLf := Lib.hid hLf
  rw [← hLf] at hC
  clear hLf
  go_upto_region 10 with fail
  generalize hWd : wf.drew = Wd
  have hCd : CapV w1 B cb (.slice Axf lxf cxf) Wd Lf := by rw [← hWd]; exact hC.drew
  have EC : Hid (∀ wq, SB Wd wq → wq.cell? ⟨cb, 0, none⟩ = some (.slice Axf lxf cxf)) := fun wq hq => hq.cell (hCd.blk.cell rfl)
  have EX : Hid (∀ wq, SB Wd wq → wq.cell? ⟨w.heap.size, 3, none⟩ = some (.int .u32 (lock : Int))) := fun wq hq => hq.cell (HT.out Wd hCd.bel).2.2
  have HCd := Lib.hid hCd
  clear hCd hC
  refine wp_region_to (z := 5) (SB Wd) (by kernel_rfl) ?_
  rw [hWd]
  have hS : SB Wd Wd := SB.refl Wd
  clear hWd
  refine AnyTo.take (i := 0) (v := (.slice Axf lxf cxf)) rfl (by kernel_rfl) (by kernel_rfl) (by kernel_rfl) (by kernel_rfl) (by kernel_rfl) (fun _ _ _ h => h) (Or.inl ⟨by rfl, ?_⟩) hS ?_
  · intro wq hq
    have dq0 := EC.out wq hq
    go_simp
  try simp only [Act.put, List.setIfInBounds_toArray, List.set_cons_zero, List.set_cons_succ, List.getElem_toArray, List.getElem_cons_zero, List.getElem_cons_succ]
  refine AnyTo.take (i := 1) (v := ?_) rfl (by kernel_rfl) (by kernel_rfl) (by kernel_rfl) (by kernel_rfl) (by kernel_rfl) (fun _ _ _ h => h) (Or.inl ⟨by rfl, ?_⟩) hS ?_
  rotate_left
  · (intro wq hq; go_simp; try with_reducible rfl)
  try simp only [Act.put, List.setIfInBounds_toArray, List.set_cons_zero, List.set_cons_succ, List.getElem_toArray, List.getElem_cons_zero, List.getElem_cons_succ]
  refine AnyTo.take (i := 2) (v := .int .u32 (lock : Int)) rfl (by kernel_rfl) (by kernel_rfl) (by kernel_rfl) (by kernel_rfl) (by kernel_rfl) (fun _ _ _ h => h) (Or.inl ⟨by rfl, ?_⟩) hS ?_
  · intro wq hq
    have dq0 := EX.out wq hq
    go_simp
  try simp only [Act.put, List.setIfInBounds_toArray, List.set_cons_zero, List.set_cons_succ, List.getElem_toArray, List.getElem_cons_zero, List.getElem_cons_succ]
  refine AnyTo.take (i := 3) (v := ?_) rfl (by kernel_rfl) (by kernel_rfl) (by kernel_rfl) (by kernel_rfl) (by kernel_rfl) (fun _ _ _ h => h) (Or.inl ⟨by rfl, ?_⟩) hS ?_
  rotate_left
  · (intro wq hq; go_simp; try with_reducible rfl)
  try simp only [Act.put, List.setIfInBounds_toArray, List.set_cons_zero, List.set_cons_succ, List.getElem_toArray, List.getElem_cons_zero, List.getElem_cons_succ]
  have HCa := HCd.out
  refine AnyTo.gone (i := 4) (by kernel_rfl) rfl (by rfl) (fun K hK => ?_)
  go_simp
  (with_reducible refine (KL.out _).mono ?_)
  rintro e wc ⟨Ac, cc, rfl, hsr, hcc, hbc⟩
  have hS : SB Wd wc := SB.next (SB.refl Wd) hbc
  have HCa := HCa.next hbc
  dsimp only
  refine hK _ _ (fun _ => hS) ?_
  clear hK K
  try simp only [Act.put, List.setIfInBounds_toArray, List.set_cons_zero, List.set_cons_succ, List.getElem_toArray, List.getElem_cons_zero, List.getElem_cons_succ]
  refine AnyTo.gone (i := 5) (by kernel_rfl) rfl (by rfl) (fun K hK => ?_)
  refine wp_app (.tmp 39) (.tmp 43) rfl rfl B (.slice Axf lxf cxf) Lf.length (vbs Lf) rfl HCa.ob Ac 4 cc (vbs (les lock 4)) rfl hsr hcc (by omega) HCa.hB ?_
  intro vz wa h1 h2
  have hz := OB.app HCa.ob HCa.bel HCa.hB (Nat.le_refl _) (by rw [les_len]; exact h1) h2
  refine hK _ _ (fun h => absurd h (by decide)) ?_
  clear hK K
  try simp only [Act.put, List.setIfInBounds_toArray, List.set_cons_zero, List.set_cons_succ, List.getElem_toArray, List.getElem_cons_zero, List.getElem_cons_succ]
  refine AnyTo.gone (i := 6) (by kernel_rfl) rfl (by rfl) (fun K hK => ?_)
  go_simp
  refine hK _ _ (fun h => absurd h (by decide)) ?_
  clear hK K
  try simp only [Act.put, List.setIfInBounds_toArray, List.set_cons_zero, List.set_cons_succ, List.getElem_toArray, List.getElem_cons_zero, List.getElem_cons_succ]
  refine AnyTo.done (by kernel_rfl) ?_ _
  try dsimp only [Exit.then]
  have HZz := Lib.hid hz
  clear hz h1 h2 HCa HCd EC EX hsr hcc hbc hS
  go_wp2_with fail
  go_ret
  refine ⟨_, rfl, ?_, ?_⟩
  · rw [HLB.out]
    have e : les ver 4 ++ [0, 1] ++ form n1 ++ XB ++ form n2 ++ YB ++ WB ++ les lock 4 = Lf ++ les lock 4 := by
      rw [HLf.out, HLe.out, HLd.out, HLc.out, HLb.out, HLa.out, HL0.out]
    rw [e]
    exact HZz.out.1.base (by omega)
  · exact Hb1.out.trans (Below.mono HZz.out.2 (by omega))
set_option maxHeartbeats 8000000 in
theorem written_false (t : TTx) (i o : Value) (w : World) (h : TxOk w w.heap.size t i o) (hc : chk t = 0) : Calls Tryd.prog 48 #[txV t i o, .bool false] w (LaidPost (layB t false) w) := by
  obtain ⟨hins, houts, hver, hlock⟩ := h
  obtain ⟨z1, z2, z3, z4, z5, _, _⟩ := chk_zero hc
  have hins' := hins
  have houts' := houts
  obtain ⟨A1, c1, rfl, _, _, r1⟩ := hins
  obtain ⟨A2, c2, rfl, _, _, r2⟩ := houts
  obtain ⟨n1, hn1⟩ : ∃ n, n = t.ins.length := ⟨_, rfl⟩
  obtain ⟨n2, hn2⟩ : ∃ n, n = t.outs.length := ⟨_, rfl⟩
  obtain ⟨ver, hv⟩ : ∃ n, n = t.ver := ⟨_, rfl⟩
  obtain ⟨lock, hlk⟩ : ∃ n, n = t.lock := ⟨_, rfl⟩
  have K1 := Lib.hid (fun wq => number_any 4 ver wq rfl (by rw [hv]; simpa using hver) (by omega))
  have KL := Lib.hid (fun wq => num4_w lock wq (by omega))
  have hwv : IntKind.u64.wrap (ver : Int) = (ver : Int) := by rw [IntKind.wrap_u64]; omega
  have hwl : IntKind.u64.wrap (lock : Int) = (lock : Int) := by rw [IntKind.wrap_u64]; omega
  have hn16 : n1 ≤ 16 := by omega
  have hn26 : n2 ≤ 16 := by omega
  obtain ⟨XB, hXB⟩ : ∃ L, L = (t.ins.map inB).flatten := ⟨_, rfl⟩
  obtain ⟨YB, hYB⟩ : ∃ L, L = (t.outs.map outB).flatten := ⟨_, rfl⟩
  have hXl : XB.length ≤ 3200 := by
    obtain ⟨_, _, b, o, _, _, hj⟩ := Row.open hins'
    have := flat_le inB 200 t.ins fun x hx => by
      obtain ⟨k, hk, rfl⟩ := List.getElem_of_mem hx
      obtain ⟨_, s, u, _, _, _, h32, _, _⟩ := hj k hk
      have e : t.ins.getD k In0 = t.ins[k] := by simp [List.getD, hk]
      rw [e] at h32
      exact inB_le (z3 _ hx) h32
    rw [← hXB] at this
    omega
  have hYl : YB.length ≤ 3200 := by
    have := flat_le outB 200 t.outs fun x hx => outB_le (z5 x hx)
    rw [← hYB] at this
    omega
  have hWl : (witsB t.ins).length ≤ 32000 := by
    have := flat_le witB 2000 t.ins (witB_le z4)
    unfold witsB
    omega
  rw [← hn1] at hins'
  rw [← hn2] at houts'
  have HI := Lib.hid hins'
  have HO := Lib.hid houts'
  have HE := Lib.hid (⟨hn1, hn2⟩ : n1 = t.ins.length ∧ n2 = t.outs.length)
  have HZ := Lib.hid (⟨z3, z4, z5⟩ : (∀ x ∈ t.ins, x.sc.length ≤ 128) ∧ WitOk t.ins ∧ (∀ y ∈ t.outs, y.sc.length ≤ 128))
  obtain ⟨LB, hLB⟩ : ∃ L, L = layB t false := ⟨_, rfl⟩
  have HLB : Hid (LB = les ver 4 ++ form n1 ++ XB ++ form n2 ++ YB ++ les lock 4) := show LB = les ver 4 ++ form n1 ++ XB ++ form n2 ++ YB ++ les lock 4 by rw [hLB, hXB, hYB, hn1, hn2, hv, hlk]; simp [layB]
  have HXB := Lib.hid hXB
  have HYB := Lib.hid hYB
  unfold txV
  rw [← hLB, ← hv, ← hlk, ← hn1, ← hn2]
  clear r1 r2 hins' houts' hn1 hn2 hv hlk z1 z2 z3 z4 z5 hc hver hlock hLB hXB hYB
  obtain ⟨m1, hm1⟩ : ∃ m, m = (form n1).length := ⟨_, rfl⟩
  obtain ⟨m2, hm2⟩ : ∃ m, m = (form n2).length := ⟨_, rfl⟩
  have hm1l : m1 ≤ 9 := by rw [hm1]; exact form_len9 _
  have hm2l : m2 ≤ 9 := by rw [hm2]; exact form_len9 _
  have KC1 := Lib.hid (fun wq => count_w n1 m1 wq (by omega) hm1.symm)
  have KC2 := Lib.hid (fun wq => count_w n2 m2 wq (by omega) hm2.symm)
  have Hm1 := Lib.hid hm1
  have Hm2 := Lib.hid hm2
  clear hm1 hm2
  go_enter Tryd.func48, Tryd.ntmps48
  go_upto_region 2 with (go_at_call 67; (refine (K1.out _).mono ?_); rintro e w2 ⟨v, rfl, ho, hb2⟩; obtain ⟨Av, cv, rfl, hrv, hcv⟩ := slice_form ho; dsimp only)
  obtain ⟨B, hBdef⟩ : ∃ B, B = (w.alloc (.cells #[.int .u32 (ver : Int), .slice A1 n1 c1, .slice A2 n2 c2, .int .u32 (lock : Int)] 26)).heap.size := ⟨_, rfl⟩
  have hb1 : Below w.heap.size w (w.alloc (.cells #[.int .u32 (ver : Int), .slice A1 n1 c1, .slice A2 n2 c2, .int .u32 (lock : Int)] 26)) := (Below.refl _ _).alloc (Nat.le_refl _) _
  have hlt : w.heap.size < B := by rw [hBdef]; simp
  have hT1 : (w.alloc (.cells #[.int .u32 (ver : Int), .slice A1 n1 c1, .slice A2 n2 c2, .int .u32 (lock : Int)] 26)).cell? ⟨w.heap.size, 1, none⟩ = some (.slice A1 n1 c1) := cell_new rfl rfl
  have hT2 : (w.alloc (.cells #[.int .u32 (ver : Int), .slice A1 n1 c1, .slice A2 n2 c2, .int .u32 (lock : Int)] 26)).cell? ⟨w.heap.size, 2, none⟩ = some (.slice A2 n2 c2) := cell_new rfl rfl
  have hT3 : (w.alloc (.cells #[.int .u32 (ver : Int), .slice A1 n1 c1, .slice A2 n2 c2, .int .u32 (lock : Int)] 26)).cell? ⟨w.heap.size, 3, none⟩ = some (.int .u32 (lock : Int)) := cell_new rfl rfl
  have hI1 := (HI.out.keep hb1 (Nat.le_refl _)).up (Nat.le_of_lt hlt)
  have hO1 := (HO.out.keep hb1 (Nat.le_refl _)).up (Nat.le_of_lt hlt)
  rw [← hBdef] at ho hb2
  have hBs := hBdef
  generalize w.alloc (.cells #[.int .u32 (ver : Int), .slice A1 n1 c1, .slice A2 n2 c2, .int .u32 (lock : Int)] 26) = w1 at hb1 hT1 hT2 hT3 hI1 hO1 ho hb2 hBdef hBs
  have HT : Hid (∀ wq, Below B w1 wq → wq.cell? ⟨w.heap.size, 1, none⟩ = some (.slice A1 n1 c1) ∧ wq.cell? ⟨w.heap.size, 2, none⟩ = some (.slice A2 n2 c2) ∧ wq.cell? ⟨w.heap.size, 3, none⟩ = some (.int .u32 (lock : Int))) := fun wq hq =>
    ⟨by rw [hq.cell (p := ⟨w.heap.size, 1, none⟩) hlt]; exact hT1, by rw [hq.cell (p := ⟨w.heap.size, 2, none⟩) hlt]; exact hT2, by rw [hq.cell (p := ⟨w.heap.size, 3, none⟩) hlt]; exact hT3⟩
  have hC : CapV w1 B w2.heap.size (.slice Av (les ver 4).length cv) (w2.alloc (.cells #[.slice Av (les ver 4).length cv] 27)) (les ver 4) :=
    ⟨Blk.new w2 27 #[.slice Av (les ver 4).length cv], ho.alloc _, hb2.alloc (by rw [hBdef]; exact hb2.size) _, by rw [hBdef]; exact hb2.size, by rw [hBdef]; exact Nat.le_refl _⟩
  obtain ⟨L0, hL0⟩ : ∃ L, L = les ver 4 := ⟨_, rfl⟩
  have hl0 : L0.length ≤ 4 := by rw [hL0, les_len]; exact Nat.le_refl _
  have HL0 := Lib.hid hL0
  rw [← hL0] at hC ⊢
  generalize w2.alloc (.cells #[.slice Av L0.length cv] 27) = w3 at hC ⊢
  generalize w2.heap.size = cb at hC ⊢
  generalize L0.length = lv at hC ⊢
  have Hb1 := Lib.hid hb1
  have HI1 := Lib.hid hI1
  have HO1 := Lib.hid hO1
  have HBs := Lib.hid hBs
  clear ho hb2 hrv hcv hT1 hT2 hT3 hI1 hO1 hb1 hBdef hBs hL0 hwv K1 HI HO
  go_upto_region 4 with fail
  generalize hWd : w3.drew = Wd
  have hCd : CapV w1 B cb (.slice Av lv cv) Wd L0 := by rw [← hWd]; exact hC.drew
  have EC : Hid (∀ wq, SB Wd wq → wq.cell? ⟨cb, 0, none⟩ = some (.slice Av lv cv)) := fun wq hq => hq.cell (hCd.blk.cell rfl)
  have EX : Hid (∀ wq, SB Wd wq → wq.cell? ⟨w.heap.size, 1, none⟩ = some (.slice A1 n1 c1)) := fun wq hq => hq.cell (HT.out Wd hCd.bel).1
  have HCd := Lib.hid hCd
  clear hCd hC
  refine wp_region_to (z := 5) (SB Wd) (by kernel_rfl) ?_
  rw [hWd]
  have hS : SB Wd Wd := SB.refl Wd
  clear hWd
  refine AnyTo.take (i := 0) (v := (.slice Av lv cv)) rfl (by kernel_rfl) (by kernel_rfl) (by kernel_rfl) (by kernel_rfl) (by kernel_rfl) (fun _ _ _ h => h) (Or.inl ⟨by rfl, ?_⟩) hS ?_
  · intro wq hq
    have dq0 := EC.out wq hq
    go_simp
  try simp only [Act.put, List.setIfInBounds_toArray, List.set_cons_zero, List.set_cons_succ, List.getElem_toArray, List.getElem_cons_zero, List.getElem_cons_succ]
  refine AnyTo.take (i := 1) (v := ?_) rfl (by kernel_rfl) (by kernel_rfl) (by kernel_rfl) (by kernel_rfl) (by kernel_rfl) (fun _ _ _ h => h) (Or.inl ⟨by rfl, ?_⟩) hS ?_
  rotate_left
  · (intro wq hq; go_simp; try with_reducible rfl)
  try simp only [Act.put, List.setIfInBounds_toArray, List.set_cons_zero, List.set_cons_succ, List.getElem_toArray, List.getElem_cons_zero, List.getElem_cons_succ]
  refine AnyTo.take (i := 2) (v := .slice A1 n1 c1) rfl (by kernel_rfl) (by kernel_rfl) (by kernel_rfl) (by kernel_rfl) (by kernel_rfl) (fun _ _ _ h => h) (Or.inl ⟨by rfl, ?_⟩) hS ?_
  · intro wq hq
    have dq0 := EX.out wq hq
    go_simp
  try simp only [Act.put, List.setIfInBounds_toArray, List.set_cons_zero, List.set_cons_succ, List.getElem_toArray, List.getElem_cons_zero, List.getElem_cons_succ]
  refine AnyTo.take (i := 3) (v := ?_) rfl (by kernel_rfl) (by kernel_rfl) (by kernel_rfl) (by kernel_rfl) (by kernel_rfl) (fun _ _ _ h => h) (Or.inl ⟨by rfl, ?_⟩) hS ?_
  rotate_left
  · (intro wq hq; go_simp; try with_reducible rfl)
  try simp only [Act.put, List.setIfInBounds_toArray, List.set_cons_zero, List.set_cons_succ, List.getElem_toArray, List.getElem_cons_zero, List.getElem_cons_succ]
  have HCa := HCd.out
  refine AnyTo.gone (i := 4) (by kernel_rfl) rfl (by rfl) (fun K hK => ?_)
  go_simp
  (with_reducible refine (KC1.out _).mono ?_)
  rintro e wc ⟨Ac, cc, rfl, hsr, hcc, hbc⟩
  have hS : SB Wd wc := SB.next (SB.refl Wd) hbc
  have HCa := HCa.next hbc
  dsimp only
  refine hK _ _ (fun _ => hS) ?_
  clear hK K
  try simp only [Act.put, List.setIfInBounds_toArray, List.set_cons_zero, List.set_cons_succ, List.getElem_toArray, List.getElem_cons_zero, List.getElem_cons_succ]
  refine AnyTo.gone (i := 5) (by kernel_rfl) rfl (by rfl) (fun K hK => ?_)
  refine wp_app (.tmp 13) (.tmp 17) rfl rfl B (.slice Av lv cv) L0.length (vbs L0) rfl HCa.ob Ac m1 cc (vbs (form n1)) rfl hsr hcc (by omega) HCa.hB ?_
  intro vb wa h1 h2
  obtain ⟨ca, fa, hC, Axb, lxb, cxb, rfl⟩ := CapV.app HCa h1 h2
  refine hK _ _ (fun h => absurd h (by decide)) ?_
  clear hK K
  try simp only [Act.put, List.setIfInBounds_toArray, List.set_cons_zero, List.set_cons_succ, List.getElem_toArray, List.getElem_cons_zero, List.getElem_cons_succ]
  refine AnyTo.gone (i := 6) (by kernel_rfl) rfl (by rfl) (fun K hK => ?_)
  go_simp
  refine hK _ _ (fun h => absurd h (by decide)) ?_
  clear hK K
  try simp only [Act.put, List.setIfInBounds_toArray, List.set_cons_zero, List.set_cons_succ, List.getElem_toArray, List.getElem_cons_zero, List.getElem_cons_succ]
  refine AnyTo.done (by kernel_rfl) ?_ _
  try dsimp only [Exit.then]
  generalize wa.setCell ⟨cb, 0, none⟩ (.slice Axb lxb cxb) = wb at hC ⊢
  clear ca fa h1 h2 HCa HCd EC
  clear EX hsr hcc hbc hS
  obtain ⟨Lb, hLb⟩ : ∃ M, M = L0 ++ form n1 := ⟨_, rfl⟩
  have hlLb : Lb.length ≤ 16 := by rw [hLb, List.length_append]; rw [← Hm1.out]; omega
  have HLb := Lib.hid hLb
  rw [← hLb] at hC
  clear hLb
  have KE := Lib.hid (ins_wr t.ins A1 n1 c1 B cb w1 wb _ Lb HE.out.1 HI1.out hn16 HZ.out.1 (by omega) hC)
  rw [← HXB.out] at KE
  have c1' := (HT.out wb hC.bel).1
  clear hC
  go_upto_region 6 with (go_at_call 69; (with_reducible refine KE.out.mono ?_); rintro e w5 ⟨rfl, v5, hC⟩; obtain ⟨A5, c5, rfl, _, _⟩ := slice_form hC.ob; dsimp only)
  clear KE c1'
  obtain ⟨Lc, hLc⟩ : ∃ M, M = Lb ++ XB := ⟨_, rfl⟩
  have hlLc : Lc.length ≤ 3300 := by rw [hLc, List.length_append]; omega
  have HLc := Lib.hid hLc
  rw [← hLc] at hC
  clear hLc
  generalize Lc.length = l5 at hC
  generalize hWd : w5.drew = Wd
  have hCd : CapV w1 B cb (.slice A5 l5 c5) Wd Lc := by rw [← hWd]; exact hC.drew
  have EC : Hid (∀ wq, SB Wd wq → wq.cell? ⟨cb, 0, none⟩ = some (.slice A5 l5 c5)) := fun wq hq => hq.cell (hCd.blk.cell rfl)
  have EX : Hid (∀ wq, SB Wd wq → wq.cell? ⟨w.heap.size, 2, none⟩ = some (.slice A2 n2 c2)) := fun wq hq => hq.cell (HT.out Wd hCd.bel).2.1
  have HCd := Lib.hid hCd
  clear hCd hC
  refine wp_region_to (z := 5) (SB Wd) (by kernel_rfl) ?_
  rw [hWd]
  have hS : SB Wd Wd := SB.refl Wd
  clear hWd
  refine AnyTo.take (i := 0) (v := (.slice A5 l5 c5)) rfl (by kernel_rfl) (by kernel_rfl) (by kernel_rfl) (by kernel_rfl) (by kernel_rfl) (fun _ _ _ h => h) (Or.inl ⟨by rfl, ?_⟩) hS ?_
  · intro wq hq
    have dq0 := EC.out wq hq
    go_simp
  try simp only [Act.put, List.setIfInBounds_toArray, List.set_cons_zero, List.set_cons_succ, List.getElem_toArray, List.getElem_cons_zero, List.getElem_cons_succ]
  refine AnyTo.take (i := 1) (v := ?_) rfl (by kernel_rfl) (by kernel_rfl) (by kernel_rfl) (by kernel_rfl) (by kernel_rfl) (fun _ _ _ h => h) (Or.inl ⟨by rfl, ?_⟩) hS ?_
  rotate_left
  · (intro wq hq; go_simp; try with_reducible rfl)
  try simp only [Act.put, List.setIfInBounds_toArray, List.set_cons_zero, List.set_cons_succ, List.getElem_toArray, List.getElem_cons_zero, List.getElem_cons_succ]
  refine AnyTo.take (i := 2) (v := .slice A2 n2 c2) rfl (by kernel_rfl) (by kernel_rfl) (by kernel_rfl) (by kernel_rfl) (by kernel_rfl) (fun _ _ _ h => h) (Or.inl ⟨by rfl, ?_⟩) hS ?_
  · intro wq hq
    have dq0 := EX.out wq hq
    go_simp
  try simp only [Act.put, List.setIfInBounds_toArray, List.set_cons_zero, List.set_cons_succ, List.getElem_toArray, List.getElem_cons_zero, List.getElem_cons_succ]
  refine AnyTo.take (i := 3) (v := ?_) rfl (by kernel_rfl) (by kernel_rfl) (by kernel_rfl) (by kernel_rfl) (by kernel_rfl) (fun _ _ _ h => h) (Or.inl ⟨by rfl, ?_⟩) hS ?_
  rotate_left
  · (intro wq hq; go_simp; try with_reducible rfl)
  try simp only [Act.put, List.setIfInBounds_toArray, List.set_cons_zero, List.set_cons_succ, List.getElem_toArray, List.getElem_cons_zero, List.getElem_cons_succ]
  have HCa := HCd.out
  refine AnyTo.gone (i := 4) (by kernel_rfl) rfl (by rfl) (fun K hK => ?_)
  go_simp
  (with_reducible refine (KC2.out _).mono ?_)
  rintro e wc ⟨Ac, cc, rfl, hsr, hcc, hbc⟩
  have hS : SB Wd wc := SB.next (SB.refl Wd) hbc
  have HCa := HCa.next hbc
  dsimp only
  refine hK _ _ (fun _ => hS) ?_
  clear hK K
  try simp only [Act.put, List.setIfInBounds_toArray, List.set_cons_zero, List.set_cons_succ, List.getElem_toArray, List.getElem_cons_zero, List.getElem_cons_succ]
  refine AnyTo.gone (i := 5) (by kernel_rfl) rfl (by rfl) (fun K hK => ?_)
  refine wp_app (.tmp 23) (.tmp 27) rfl rfl B (.slice A5 l5 c5) Lc.length (vbs Lc) rfl HCa.ob Ac m2 cc (vbs (form n2)) rfl hsr hcc (by omega) HCa.hB ?_
  intro vd wa h1 h2
  obtain ⟨ca, fa, hC, Axd, lxd, cxd, rfl⟩ := CapV.app HCa h1 h2
  refine hK _ _ (fun h => absurd h (by decide)) ?_
  clear hK K
  try simp only [Act.put, List.setIfInBounds_toArray, List.set_cons_zero, List.set_cons_succ, List.getElem_toArray, List.getElem_cons_zero, List.getElem_cons_succ]
  refine AnyTo.gone (i := 6) (by kernel_rfl) rfl (by rfl) (fun K hK => ?_)
  go_simp
  refine hK _ _ (fun h => absurd h (by decide)) ?_
  clear hK K
  try simp only [Act.put, List.setIfInBounds_toArray, List.set_cons_zero, List.set_cons_succ, List.getElem_toArray, List.getElem_cons_zero, List.getElem_cons_succ]
  refine AnyTo.done (by kernel_rfl) ?_ _
  try dsimp only [Exit.then]
  generalize wa.setCell ⟨cb, 0, none⟩ (.slice Axd lxd cxd) = wd at hC ⊢
  clear ca fa h1 h2 HCa HCd EC
  clear EX hsr hcc hbc hS
  obtain ⟨Ld, hLd⟩ : ∃ M, M = Lc ++ form n2 := ⟨_, rfl⟩
  have hlLd : Ld.length ≤ 3400 := by rw [hLd, List.length_append]; rw [← Hm2.out]; omega
  have HLd := Lib.hid hLd
  rw [← hLd] at hC
  clear hLd
  have KE := Lib.hid (outs_wr t.outs A2 n2 c2 B cb w1 wd _ Ld HE.out.2 HO1.out hn26 HZ.out.2.2 (by omega) hC)
  rw [← HYB.out] at KE
  have c2' := (HT.out wd hC.bel).2.1
  clear hC
  go_upto_region 8 with (go_at_call 72; (with_reducible refine KE.out.mono ?_); rintro e w6 ⟨rfl, v6, hC⟩; obtain ⟨A6, c6, rfl, _, _⟩ := slice_form hC.ob; dsimp only)
  clear KE c2'
  obtain ⟨Le, hLe⟩ : ∃ M, M = Ld ++ YB := ⟨_, rfl⟩
  have hlLe : Le.length ≤ 6700 := by rw [hLe, List.length_append]; omega
  have HLe := Lib.hid hLe
  rw [← hLe] at hC
  clear hLe
  generalize Le.length = l6 at hC
  go_upto_region 10 with fail
  generalize hWd : w6.drew = Wd
  have hCd : CapV w1 B cb (.slice A6 l6 c6) Wd Le := by rw [← hWd]; exact hC.drew
  have EC : Hid (∀ wq, SB Wd wq → wq.cell? ⟨cb, 0, none⟩ = some (.slice A6 l6 c6)) := fun wq hq => hq.cell (hCd.blk.cell rfl)
  have EX : Hid (∀ wq, SB Wd wq → wq.cell? ⟨w.heap.size, 3, none⟩ = some (.int .u32 (lock : Int))) := fun wq hq => hq.cell (HT.out Wd hCd.bel).2.2
  have HCd := Lib.hid hCd
  clear hCd hC
  refine wp_region_to (z := 5) (SB Wd) (by kernel_rfl) ?_
  rw [hWd]
  have hS : SB Wd Wd := SB.refl Wd
  clear hWd
  refine AnyTo.take (i := 0) (v := (.slice A6 l6 c6)) rfl (by kernel_rfl) (by kernel_rfl) (by kernel_rfl) (by kernel_rfl) (by kernel_rfl) (fun _ _ _ h => h) (Or.inl ⟨by rfl, ?_⟩) hS ?_
  · intro wq hq
    have dq0 := EC.out wq hq
    go_simp
  try simp only [Act.put, List.setIfInBounds_toArray, List.set_cons_zero, List.set_cons_succ, List.getElem_toArray, List.getElem_cons_zero, List.getElem_cons_succ]
  refine AnyTo.take (i := 1) (v := ?_) rfl (by kernel_rfl) (by kernel_rfl) (by kernel_rfl) (by kernel_rfl) (by kernel_rfl) (fun _ _ _ h => h) (Or.inl ⟨by rfl, ?_⟩) hS ?_
  rotate_left
  · (intro wq hq; go_simp; try with_reducible rfl)
  try simp only [Act.put, List.setIfInBounds_toArray, List.set_cons_zero, List.set_cons_succ, List.getElem_toArray, List.getElem_cons_zero, List.getElem_cons_succ]
  refine AnyTo.take (i := 2) (v := .int .u32 (lock : Int)) rfl (by kernel_rfl) (by kernel_rfl) (by kernel_rfl) (by kernel_rfl) (by kernel_rfl) (fun _ _ _ h => h) (Or.inl ⟨by rfl, ?_⟩) hS ?_
  · intro wq hq
    have dq0 := EX.out wq hq
    go_simp
  try simp only [Act.put, List.setIfInBounds_toArray, List.set_cons_zero, List.set_cons_succ, List.getElem_toArray, List.getElem_cons_zero, List.getElem_cons_succ]
  refine AnyTo.take (i := 3) (v := ?_) rfl (by kernel_rfl) (by kernel_rfl) (by kernel_rfl) (by kernel_rfl) (by kernel_rfl) (fun _ _ _ h => h) (Or.inl ⟨by rfl, ?_⟩) hS ?_
  rotate_left
  · (intro wq hq; go_simp; try with_reducible rfl)
  try simp only [Act.put, List.setIfInBounds_toArray, List.set_cons_zero, List.set_cons_succ, List.getElem_toArray, List.getElem_cons_zero, List.getElem_cons_succ]
  have HCa := HCd.out
  refine AnyTo.gone (i := 4) (by kernel_rfl) rfl (by rfl) (fun K hK => ?_)
  go_simp
  (with_reducible refine (KL.out _).mono ?_)
  rintro e wc ⟨Ac, cc, rfl, hsr, hcc, hbc⟩
  have hS : SB Wd wc := SB.next (SB.refl Wd) hbc
  have HCa := HCa.next hbc
  dsimp only
  refine hK _ _ (fun _ => hS) ?_
  clear hK K
  try simp only [Act.put, List.setIfInBounds_toArray, List.set_cons_zero, List.set_cons_succ, List.getElem_toArray, List.getElem_cons_zero, List.getElem_cons_succ]
  refine AnyTo.gone (i := 5) (by kernel_rfl) rfl (by rfl) (fun K hK => ?_)
  refine wp_app (.tmp 39) (.tmp 43) rfl rfl B (.slice A6 l6 c6) Le.length (vbs Le) rfl HCa.ob Ac 4 cc (vbs (les lock 4)) rfl hsr hcc (by omega) HCa.hB ?_
  intro vz wa h1 h2
  have hz := OB.app HCa.ob HCa.bel HCa.hB (Nat.le_refl _) (by rw [les_len]; exact h1) h2
  refine hK _ _ (fun h => absurd h (by decide)) ?_
  clear hK K
  try simp only [Act.put, List.setIfInBounds_toArray, List.set_cons_zero, List.set_cons_succ, List.getElem_toArray, List.getElem_cons_zero, List.getElem_cons_succ]
  refine AnyTo.gone (i := 6) (by kernel_rfl) rfl (by rfl) (fun K hK => ?_)
  go_simp
  refine hK _ _ (fun h => absurd h (by decide)) ?_
  clear hK K
  try simp only [Act.put, List.setIfInBounds_toArray, List.set_cons_zero, List.set_cons_succ, List.getElem_toArray, List.getElem_cons_zero, List.getElem_cons_succ]
  refine AnyTo.done (by kernel_rfl) ?_ _
  try dsimp only [Exit.then]
  have HZz := Lib.hid hz
  clear hz h1 h2 HCa HCd EC EX hsr hcc hbc hS
  go_wp2_with fail
  go_ret
  refine ⟨_, rfl, ?_, ?_⟩
  · rw [HLB.out]
    have e : les ver 4 ++ form n1 ++ XB ++ form n2 ++ YB ++ les lock 4 = Le ++ les lock 4 := by
      rw [HLe.out, HLd.out, HLc.out, HLb.out, HL0.out]
    rw [e]
    exact HZz.out.1.base (by omega)
  · exact Hb1.out.trans (Below.mono HZz.out.2 (by omega))
theorem written_any (t : TTx) (i o : Value) (full : Bool) (w : World) (h : TxOk w w.heap.size t i o) (hc : chk t = 0) : Calls Tryd.prog 48 #[txV t i o, .bool full] w (LaidPost (layB t full) w) := by
  cases full with
  | true => exact written_true t i o w h hc
  | false => exact written_false t i o w h hc
end Go.Proofs.YtnkkhmgplpkjbaaDoor
