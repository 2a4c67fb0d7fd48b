/- What tx.written returns: the bytes of a transaction. What slices.Grow of nil, and slices.Concat, return. What tx.put and tx.Put return: the bytes of a transaction behind others, or why there are none. What stays when a reader is read from while a row is filled (Fr), slices of bytes that stay (SlN), and what the closure that reads one item of a witness does. What the closure that reads an output does. -/
import Derived.Test.YtpamepkcbhoiaaaZoa
import Derived.Test.YtpamepkcbhoiaaaZob
import Derived.Test.YtpamepkcbhoiaaaZoc
import Derived.Outline
import Derived.Lib.AppendZeros
namespace Go.Proofs.Ytpamepkcbhoiaaa
open Go.RowKit
set_option linter.unusedVariables false
set_option linter.unusedSimpArgs false
set_option maxRecDepth 100000
theorem form_len9 (n : Nat) : (form n).length ≤ 9 := by rw [form_len]; have := wid_le n; omega
set_option maxHeartbeats 8000000 in
theorem written_true (t : TTx) (i o : Value) (w : World) (h : TxOk w w.heap.size t i o) (hc : chk t = 0) : Calls Try.prog 68 #[txV t i o, .bool true] w (LaidPost (layB t true) w) := by
  obtain ⟨hins, houts, hver, hlock⟩ := h
  obtain ⟨z1, z2, z3, z4, z5, _, _⟩ := chk_zero hc
  have hins' := hins
  have houts' := houts
  obtain ⟨A1, c1, rfl, _, _, r1⟩ := hins
  obtain ⟨A2, c2, rfl, _, _, r2⟩ := houts
  obtain ⟨n1, hn1⟩ : ∃ n, n = t.ins.length := ⟨_, rfl⟩
  obtain ⟨n2, hn2⟩ : ∃ n, n = t.outs.length := ⟨_, rfl⟩
  obtain ⟨ver, hv⟩ : ∃ n, n = t.ver := ⟨_, rfl⟩
  obtain ⟨lock, hlk⟩ : ∃ n, n = t.lock := ⟨_, rfl⟩
  have K1 := Lib.hid (fun wq => number_any 4 ver wq rfl (by rw [hv]; simpa using hver) (by omega))
  have KL := Lib.hid (fun wq => num4_w lock wq (by omega))
  have hwv : IntKind.u64.wrap (ver : Int) = (ver : Int) := by rw [IntKind.wrap_u64]; omega
  have hwl : IntKind.u64.wrap (lock : Int) = (lock : Int) := by rw [IntKind.wrap_u64]; omega
  have hn16 : n1 ≤ 16 := by omega
  have hn26 : n2 ≤ 16 := by omega
  obtain ⟨XB, hXB⟩ : ∃ L, L = (t.ins.map inB).flatten := ⟨_, rfl⟩
  obtain ⟨YB, hYB⟩ : ∃ L, L = (t.outs.map outB).flatten := ⟨_, rfl⟩
  have hXl : XB.length ≤ 3200 := by
    obtain ⟨_, _, b, o, _, _, hj⟩ := Row.open hins'
    have := flat_le inB 200 t.ins fun x hx => by
      obtain ⟨k, hk, rfl⟩ := List.getElem_of_mem hx
      obtain ⟨_, s, u, _, _, _, h32, _, _⟩ := hj k hk
      have e : t.ins.getD k In0 = t.ins[k] := by simp [List.getD, hk]
      rw [e] at h32
      exact inB_le (z3 _ hx) h32
    rw [← hXB] at this
    omega
  have hYl : YB.length ≤ 3200 := by
    have := flat_le outB 200 t.outs fun x hx => outB_le (z5 x hx)
    rw [← hYB] at this
    omega
  have hWl : (witsB t.ins).length ≤ 32000 := by
    have := flat_le witB 2000 t.ins (witB_le z4)
    unfold witsB
    omega
  rw [← hn1] at hins'
  rw [← hn2] at houts'
  have HI := Lib.hid hins'
  have HO := Lib.hid houts'
  have HE := Lib.hid (⟨hn1, hn2⟩ : n1 = t.ins.length ∧ n2 = t.outs.length)
  have HZ := Lib.hid (⟨z3, z4, z5⟩ : (∀ x ∈ t.ins, x.sc.length ≤ 128) ∧ WitOk t.ins ∧ (∀ y ∈ t.outs, y.sc.length ≤ 128))
  obtain ⟨LB, hLB⟩ : ∃ L, L = layB t true := ⟨_, rfl⟩
  have HLB : Hid (LB = les ver 4 ++ [0, 1] ++ form n1 ++ XB ++ form n2 ++ YB ++ witsB t.ins ++ les lock 4) := show LB = les ver 4 ++ [0, 1] ++ form n1 ++ XB ++ form n2 ++ YB ++ witsB t.ins ++ les lock 4 by rw [hLB, hXB, hYB, hn1, hn2, hv, hlk]; simp [layB]
  have HXB := Lib.hid hXB
  have HYB := Lib.hid hYB
  unfold txV
  rw [← hLB, ← hv, ← hlk, ← hn1, ← hn2]
  clear r1 r2 hins' houts' hn1 hn2 hv hlk z1 z2 z3 z4 z5 hc hver hlock hLB hXB hYB
  obtain ⟨m1, hm1⟩ : ∃ m, m = (form n1).length := ⟨_, rfl⟩
  obtain ⟨m2, hm2⟩ : ∃ m, m = (form n2).length := ⟨_, rfl⟩
  have hm1l : m1 ≤ 9 := by rw [hm1]; exact form_len9 _
  have hm2l : m2 ≤ 9 := by rw [hm2]; exact form_len9 _
  have KC1 := Lib.hid (fun wq => count_w n1 m1 wq (by omega) hm1.symm)
  have KC2 := Lib.hid (fun wq => count_w n2 m2 wq (by omega) hm2.symm)
  have Hm1 := Lib.hid hm1
  have Hm2 := Lib.hid hm2
  clear hm1 hm2
  go_enter Try.func68, Try.ntmps68
  go_upto_region 2 with (go_at_call 80; (refine (K1.out _).mono ?_); rintro e w2 ⟨v, rfl, ho, hb2⟩; obtain ⟨Av, cv, rfl, hrv, hcv⟩ := slice_form ho; dsimp only)
  obtain ⟨B, hBdef⟩ : ∃ B, B = (w.alloc (.cells #[.int .u32 (ver : Int), .slice A1 n1 c1, .slice A2 n2 c2, .int .u32 (lock : Int)] 60)).heap.size := ⟨_, rfl⟩
  have hb1 : Below w.heap.size w (w.alloc (.cells #[.int .u32 (ver : Int), .slice A1 n1 c1, .slice A2 n2 c2, .int .u32 (lock : Int)] 60)) := (Below.refl _ _).alloc (Nat.le_refl _) _
  have hlt : w.heap.size < B := by rw [hBdef]; simp
  have hT1 : (w.alloc (.cells #[.int .u32 (ver : Int), .slice A1 n1 c1, .slice A2 n2 c2, .int .u32 (lock : Int)] 60)).cell? ⟨w.heap.size, 1, none⟩ = some (.slice A1 n1 c1) := cell_new rfl rfl
  have hT2 : (w.alloc (.cells #[.int .u32 (ver : Int), .slice A1 n1 c1, .slice A2 n2 c2, .int .u32 (lock : Int)] 60)).cell? ⟨w.heap.size, 2, none⟩ = some (.slice A2 n2 c2) := cell_new rfl rfl
  have hT3 : (w.alloc (.cells #[.int .u32 (ver : Int), .slice A1 n1 c1, .slice A2 n2 c2, .int .u32 (lock : Int)] 60)).cell? ⟨w.heap.size, 3, none⟩ = some (.int .u32 (lock : Int)) := cell_new rfl rfl
  have hI1 := (HI.out.keep hb1 (Nat.le_refl _)).up (Nat.le_of_lt hlt)
  have hO1 := (HO.out.keep hb1 (Nat.le_refl _)).up (Nat.le_of_lt hlt)
  rw [← hBdef] at ho hb2
  have hBs := hBdef
  generalize w.alloc (.cells #[.int .u32 (ver : Int), .slice A1 n1 c1, .slice A2 n2 c2, .int .u32 (lock : Int)] 60) = w1 at hb1 hT1 hT2 hT3 hI1 hO1 ho hb2 hBdef hBs
  have HT : Hid (∀ wq, Below B w1 wq → wq.cell? ⟨w.heap.size, 1, none⟩ = some (.slice A1 n1 c1) ∧ wq.cell? ⟨w.heap.size, 2, none⟩ = some (.slice A2 n2 c2) ∧ wq.cell? ⟨w.heap.size, 3, none⟩ = some (.int .u32 (lock : Int))) := fun wq hq =>
    ⟨by rw [hq.cell (p := ⟨w.heap.size, 1, none⟩) hlt]; exact hT1, by rw [hq.cell (p := ⟨w.heap.size, 2, none⟩) hlt]; exact hT2, by rw [hq.cell (p := ⟨w.heap.size, 3, none⟩) hlt]; exact hT3⟩
  have hC : CapV w1 B w2.heap.size (.slice Av (les ver 4).length cv) (w2.alloc (.cells #[.slice Av (les ver 4).length cv] 22)) (les ver 4) :=
    ⟨Blk.new w2 22 #[.slice Av (les ver 4).length cv], ho.alloc _, hb2.alloc (by rw [hBdef]; exact hb2.size) _, by rw [hBdef]; exact hb2.size, by rw [hBdef]; exact Nat.le_refl _⟩
  obtain ⟨L0, hL0⟩ : ∃ L, L = les ver 4 := ⟨_, rfl⟩
  have hl0 : L0.length ≤ 4 := by rw [hL0, les_len]; exact Nat.le_refl _
  have HL0 := Lib.hid hL0
  rw [← hL0] at hC ⊢
  generalize w2.alloc (.cells #[.slice Av L0.length cv] 22) = w3 at hC ⊢
  generalize w2.heap.size = cb at hC ⊢
  generalize L0.length = lv at hC ⊢
  have Hb1 := Lib.hid hb1
  have HI1 := Lib.hid hI1
  have HO1 := Lib.hid hO1
  have HBs := Lib.hid hBs
  clear ho hb2 hrv hcv hT1 hT2 hT3 hI1 hO1 hb1 hBdef hBs hL0 hwv K1 HI HO
  have cc0 := hC.blk.cell (j := 0) rfl
  have HC := Lib.hid hC
  clear hC
  go_upto_region 4 with (((with_reducible show wpList _ _ _ ((⟨some 12, _, _, _, _, _⟩ : Oper) :: _) _ _); refine wpList_pushS (o := ⟨some 12, _, _, _, _, _⟩) rfl (.tmp 11) (.const _) rfl rfl B (.slice Av lv cv) L0 rfl HC.out.ob rfl (by omega) HC.out.hB ?_; intro va wa h1 h2; obtain ⟨ca, fa, hC, Axs, lxs, cxs, rfl⟩ := CapV.app HC.out h1 h2))
  generalize wa.setCell ⟨cb, 0, none⟩ (.slice Axs lxs cxs) = w4 at hC ⊢
  clear ca fa h1 h2 cc0 HC
  obtain ⟨La, hLa⟩ : ∃ M, M = L0 ++ [0, 1] := ⟨_, rfl⟩
  have hla : La.length ≤ 6 := by rw [hLa, List.length_append]; simp; omega
  have HLa := Lib.hid hLa
  rw [← hLa] at hC
  clear hLa
  generalize hWd : w4.drew = Wd
  have hCd : CapV w1 B cb (.slice Axs lxs cxs) Wd La := by rw [← hWd]; exact hC.drew
  have EC : Hid (∀ wq, SB Wd wq → wq.cell? ⟨cb, 0, none⟩ = some (.slice Axs lxs cxs)) := fun wq hq => hq.cell (hCd.blk.cell rfl)
  have EX : Hid (∀ wq, SB Wd wq → wq.cell? ⟨w.heap.size, 1, none⟩ = some (.slice A1 n1 c1)) := fun wq hq => hq.cell (HT.out Wd hCd.bel).1
  have HCd := Lib.hid hCd
  clear hCd hC
  refine wp_region_to (z := 5) (SB Wd) (by kernel_rfl) ?_
  rw [hWd]
  have hS : SB Wd Wd := SB.refl Wd
  clear hWd
  refine AnyTo.take (i := 0) (v := (.slice Axs lxs cxs)) rfl (by kernel_rfl) (by kernel_rfl) (by kernel_rfl) (by kernel_rfl) (by kernel_rfl) (fun _ _ _ h => h) (Or.inl ⟨by rfl, ?_⟩) hS ?_
  · intro wq hq
    have dq0 := EC.out wq hq
    go_simp
  try simp only [Act.put, List.setIfInBounds_toArray, List.set_cons_zero, List.set_cons_succ, List.getElem_toArray, List.getElem_cons_zero, List.getElem_cons_succ]
  refine AnyTo.take (i := 1) (v := ?_) rfl (by kernel_rfl) (by kernel_rfl) (by kernel_rfl) (by kernel_rfl) (by kernel_rfl) (fun _ _ _ h => h) (Or.inl ⟨by rfl, ?_⟩) hS ?_
  rotate_left
  · (intro wq hq; go_simp; try with_reducible rfl)
  try simp only [Act.put, List.setIfInBounds_toArray, List.set_cons_zero, List.set_cons_succ, List.getElem_toArray, List.getElem_cons_zero, List.getElem_cons_succ]
  refine AnyTo.take (i := 2) (v := .slice A1 n1 c1) rfl (by kernel_rfl) (by kernel_rfl) (by kernel_rfl) (by kernel_rfl) (by kernel_rfl) (fun _ _ _ h => h) (Or.inl ⟨by rfl, ?_⟩) hS ?_
  · intro wq hq
    have dq0 := EX.out wq hq
    go_simp
  try simp only [Act.put, List.setIfInBounds_toArray, List.set_cons_zero, List.set_cons_succ, List.getElem_toArray, List.getElem_cons_zero, List.getElem_cons_succ]
  refine AnyTo.take (i := 3) (v := ?_) rfl (by kernel_rfl) (by kernel_rfl) (by kernel_rfl) (by kernel_rfl) (by kernel_rfl) (fun _ _ _ h => h) (Or.inl ⟨by rfl, ?_⟩) hS ?_
  rotate_left
  · (intro wq hq; go_simp; try with_reducible rfl)
  try simp only [Act.put, List.setIfInBounds_toArray, List.set_cons_zero, List.set_cons_succ, List.getElem_toArray, List.getElem_cons_zero, List.getElem_cons_succ]
  have HCa := HCd.out
  refine AnyTo.gone (i := 4) (by kernel_rfl) rfl (by rfl) (fun K hK => ?_)
  go_simp
  (with_reducible refine (KC1.out _).mono ?_)
  rintro e wc ⟨Ac, cc, rfl, hsr, hcc, hbc⟩
  have hS : SB Wd wc := SB.next (SB.refl Wd) hbc
  have HCa := HCa.next hbc
  dsimp only
  refine hK _ _ (fun _ => hS) ?_
  clear hK K
  try simp only [Act.put, List.setIfInBounds_toArray, List.set_cons_zero, List.set_cons_succ, List.getElem_toArray, List.getElem_cons_zero, List.getElem_cons_succ]
  refine AnyTo.gone (i := 5) (by kernel_rfl) rfl (by rfl) (fun K hK => ?_)
  refine wp_app (.tmp 13) (.tmp 17) rfl rfl B (.slice Axs lxs cxs) La.length (vbs La) rfl HCa.ob Ac m1 cc (vbs (form n1)) rfl hsr hcc (by omega) HCa.hB ?_
  intro vb wa h1 h2
  obtain ⟨ca, fa, hC, Axb, lxb, cxb, rfl⟩ := CapV.app HCa h1 h2
  refine hK _ _ (fun h => absurd h (by decide)) ?_
  clear hK K
  try simp only [Act.put, List.setIfInBounds_toArray, List.set_cons_zero, List.set_cons_succ, List.getElem_toArray, List.getElem_cons_zero, List.getElem_cons_succ]
  refine AnyTo.gone (i := 6) (by kernel_rfl) rfl (by rfl) (fun K hK => ?_)
  go_simp
  refine hK _ _ (fun h => absurd h (by decide)) ?_
  clear hK K
  try simp only [Act.put, List.setIfInBounds_toArray, List.set_cons_zero, List.set_cons_succ, List.getElem_toArray, List.getElem_cons_zero, List.getElem_cons_succ]
  refine AnyTo.done (by kernel_rfl) ?_ _
  try dsimp only [Exit.then]
  generalize wa.setCell ⟨cb, 0, none⟩ (.slice Axb lxb cxb) = wb at hC ⊢
  clear ca fa h1 h2 HCa HCd EC
  clear EX hsr hcc hbc hS
  obtain ⟨Lb, hLb⟩ : ∃ M, M = La ++ form n1 := ⟨_, rfl⟩
  have hlLb : Lb.length ≤ 16 := by rw [hLb, List.length_append]; rw [← Hm1.out]; omega
  have HLb := Lib.hid hLb
  rw [← hLb] at hC
  clear hLb
  have KE := Lib.hid (ins_wr t.ins A1 n1 c1 B cb w1 wb _ Lb HE.out.1 HI1.out hn16 HZ.out.1 (by omega) hC)
  rw [← HXB.out] at KE
  have c1' := (HT.out wb hC.bel).1
  clear hC
  go_upto_region 6 with (go_at_call 82; (with_reducible refine KE.out.mono ?_); rintro e w5 ⟨rfl, v5, hC⟩; obtain ⟨A5, c5, rfl, _, _⟩ := slice_form hC.ob; dsimp only)
  clear KE c1'
  obtain ⟨Lc, hLc⟩ : ∃ M, M = Lb ++ XB := ⟨_, rfl⟩
  have hlLc : Lc.length ≤ 3300 := by rw [hLc, List.length_append]; omega
  have HLc := Lib.hid hLc
  rw [← hLc] at hC
  clear hLc
  generalize Lc.length = l5 at hC
  generalize hWd : w5.drew = Wd
  have hCd : CapV w1 B cb (.slice A5 l5 c5) Wd Lc := by rw [← hWd]; exact hC.drew
  have EC : Hid (∀ wq, SB Wd wq → wq.cell? ⟨cb, 0, none⟩ = some (.slice A5 l5 c5)) := fun wq hq => hq.cell (hCd.blk.cell rfl)
  have EX : Hid (∀ wq, SB Wd wq → wq.cell? ⟨w.heap.size, 2, none⟩ = some (.slice A2 n2 c2)) := fun wq hq => hq.cell (HT.out Wd hCd.bel).2.1
  have HCd := Lib.hid hCd
  clear hCd hC
  refine wp_region_to (z := 5) (SB Wd) (by kernel_rfl) ?_
  rw [hWd]
  have hS : SB Wd Wd := SB.refl Wd
  clear hWd
  refine AnyTo.take (i := 0) (v := (.slice A5 l5 c5)) rfl (by kernel_rfl) (by kernel_rfl) (by kernel_rfl) (by kernel_rfl) (by kernel_rfl) (fun _ _ _ h => h) (Or.inl ⟨by rfl, ?_⟩) hS ?_
  · intro wq hq
    have dq0 := EC.out wq hq
    go_simp
  try simp only [Act.put, List.setIfInBounds_toArray, List.set_cons_zero, List.set_cons_succ, List.getElem_toArray, List.getElem_cons_zero, List.getElem_cons_succ]
  refine AnyTo.take (i := 1) (v := ?_) rfl (by kernel_rfl) (by kernel_rfl) (by kernel_rfl) (by kernel_rfl) (by kernel_rfl) (fun _ _ _ h => h) (Or.inl ⟨by rfl, ?_⟩) hS ?_
  rotate_left
  · (intro wq hq; go_simp; try with_reducible rfl)
  try simp only [Act.put, List.setIfInBounds_toArray, List.set_cons_zero, List.set_cons_succ, List.getElem_toArray, List.getElem_cons_zero, List.getElem_cons_succ]
  refine AnyTo.take (i := 2) (v := .slice A2 n2 c2) rfl (by kernel_rfl) (by kernel_rfl) (by kernel_rfl) (by kernel_rfl) (by kernel_rfl) (fun _ _ _ h => h) (Or.inl ⟨by rfl, ?_⟩) hS ?_
  · intro wq hq
    have dq0 := EX.out wq hq
    go_simp
  try simp only [Act.put, List.setIfInBounds_toArray, List.set_cons_zero, List.set_cons_succ, List.getElem_toArray, List.getElem_cons_zero, List.getElem_cons_succ]
  refine AnyTo.take (i := 3) (v := ?_) rfl (by kernel_rfl) (by kernel_rfl) (by kernel_rfl) (by kernel_rfl) (by kernel_rfl) (fun _ _ _ h => h) (Or.inl ⟨by rfl, ?_⟩) hS ?_
  rotate_left
  · (intro wq hq; go_simp; try with_reducible rfl)
  try simp only [Act.put, List.setIfInBounds_toArray, List.set_cons_zero, List.set_cons_succ, List.getElem_toArray, List.getElem_cons_zero, List.getElem_cons_succ]
  have HCa := HCd.out
  refine AnyTo.gone (i := 4) (by kernel_rfl) rfl (by rfl) (fun K hK => ?_)
  go_simp
  (with_reducible refine (KC2.out _).mono ?_)
  rintro e wc ⟨Ac, cc, rfl, hsr, hcc, hbc⟩
  have hS : SB Wd wc := SB.next (SB.refl Wd) hbc
  have HCa := HCa.next hbc
  dsimp only
  refine hK _ _ (fun _ => hS) ?_
  clear hK K
  try simp only [Act.put, List.setIfInBounds_toArray, List.set_cons_zero, List.set_cons_succ, List.getElem_toArray, List.getElem_cons_zero, List.getElem_cons_succ]
  refine AnyTo.gone (i := 5) (by kernel_rfl) rfl (by rfl) (fun K hK => ?_)
  refine wp_app (.tmp 23) (.tmp 27) rfl rfl B (.slice A5 l5 c5) Lc.length (vbs Lc) rfl HCa.ob Ac m2 cc (vbs (form n2)) rfl hsr hcc (by omega) HCa.hB ?_
  intro vd wa h1 h2
  obtain ⟨ca, fa, hC, Axd, lxd, cxd, rfl⟩ := CapV.app HCa h1 h2
  refine hK _ _ (fun h => absurd h (by decide)) ?_
  clear hK K
  try simp only [Act.put, List.setIfInBounds_toArray, List.set_cons_zero, List.set_cons_succ, List.getElem_toArray, List.getElem_cons_zero, List.getElem_cons_succ]
  refine AnyTo.gone (i := 6) (by kernel_rfl) rfl (by rfl) (fun K hK => ?_)
  go_simp
  refine hK _ _ (fun h => absurd h (by decide)) ?_
  clear hK K
  try simp only [Act.put, List.setIfInBounds_toArray, List.set_cons_zero, List.set_cons_succ, List.getElem_toArray, List.getElem_cons_zero, List.getElem_cons_succ]
  refine AnyTo.done (by kernel_rfl) ?_ _
  try dsimp only [Exit.then]
  generalize wa.setCell ⟨cb, 0, none⟩ (.slice Axd lxd cxd) = wd at hC ⊢
  clear ca fa h1 h2 HCa HCd EC
  clear EX hsr hcc hbc hS
  obtain ⟨Ld, hLd⟩ : ∃ M, M = Lc ++ form n2 := ⟨_, rfl⟩
  have hlLd : Ld.length ≤ 3400 := by rw [hLd, List.length_append]; rw [← Hm2.out]; omega
  have HLd := Lib.hid hLd
  rw [← hLd] at hC
  clear hLd
  have KE := Lib.hid (outs_wr t.outs A2 n2 c2 B cb w1 wd _ Ld HE.out.2 HO1.out hn26 HZ.out.2.2 (by omega) hC)
  rw [← HYB.out] at KE
  have c2' := (HT.out wd hC.bel).2.1
  clear hC
  go_upto_region 8 with (go_at_call 85; (with_reducible refine KE.out.mono ?_); rintro e w6 ⟨rfl, v6, hC⟩; obtain ⟨A6, c6, rfl, _, _⟩ := slice_form hC.ob; dsimp only)
  clear KE c2'
  obtain ⟨Le, hLe⟩ : ∃ M, M = Ld ++ YB := ⟨_, rfl⟩
  have hlLe : Le.length ≤ 6700 := by rw [hLe, List.length_append]; omega
  have HLe := Lib.hid hLe
  rw [← hLe] at hC
  clear hLe
  generalize Le.length = l6 at hC
  obtain ⟨mw, hmw⟩ : ∃ m, m = (witsB t.ins).length := ⟨_, rfl⟩
  have KW : Hid (∀ wq, Below B w1 wq → B ≤ wq.heap.size → Calls Try.prog 87 #[.slice A1 n1 c1] wq fun e w' => ∃ A' c', e = .returned (.slice A' mw c') ∧ Src22 w' A' mw (vbs (witsB t.ins)) ∧ (A' = none → c' = 0) ∧ Below wq.heap.size wq w') := fun wq hq hB =>
    wits_w t.ins A1 n1 c1 mw wq ((HI1.out.keep hq (Nat.le_refl _)).up hB) (by rw [← HE.out.1]; exact hn16) HZ.out.2.1 hmw.symm
  obtain ⟨WB, hWB⟩ : ∃ L, L = witsB t.ins := ⟨_, rfl⟩
  rw [← hWB] at KW HLB hmw hWl
  have Hmw := Lib.hid hmw
  clear hWB hmw
  go_upto_region 9 with fail
  generalize hWd : w6.drew = Wd
  have hCd : CapV w1 B cb (.slice A6 l6 c6) Wd Le := by rw [← hWd]; exact hC.drew
  have EC : Hid (∀ wq, SB Wd wq → wq.cell? ⟨cb, 0, none⟩ = some (.slice A6 l6 c6)) := fun wq hq => hq.cell (hCd.blk.cell rfl)
  have EX : Hid (∀ wq, SB Wd wq → wq.cell? ⟨w.heap.size, 1, none⟩ = some (.slice A1 n1 c1)) := fun wq hq => hq.cell (HT.out Wd hCd.bel).1
  have HCd := Lib.hid hCd
  clear hCd hC
  refine wp_region_to (z := 4) (SB Wd) (by kernel_rfl) ?_
  rw [hWd]
  have hS : SB Wd Wd := SB.refl Wd
  clear hWd
  refine AnyTo.take (i := 0) (v := (.slice A6 l6 c6)) rfl (by kernel_rfl) (by kernel_rfl) (by kernel_rfl) (by kernel_rfl) (by kernel_rfl) (fun _ _ _ h => h) (Or.inl ⟨by rfl, ?_⟩) hS ?_
  · intro wq hq
    have dq0 := EC.out wq hq
    go_simp
  try simp only [Act.put, List.setIfInBounds_toArray, List.set_cons_zero, List.set_cons_succ, List.getElem_toArray, List.getElem_cons_zero, List.getElem_cons_succ]
  refine AnyTo.take (i := 1) (v := ?_) rfl (by kernel_rfl) (by kernel_rfl) (by kernel_rfl) (by kernel_rfl) (by kernel_rfl) (fun _ _ _ h => h) (Or.inl ⟨by rfl, ?_⟩) hS ?_
  rotate_left
  · (intro wq hq; go_simp; try with_reducible rfl)
  try simp only [Act.put, List.setIfInBounds_toArray, List.set_cons_zero, List.set_cons_succ, List.getElem_toArray, List.getElem_cons_zero, List.getElem_cons_succ]
  refine AnyTo.take (i := 2) (v := .slice A1 n1 c1) rfl (by kernel_rfl) (by kernel_rfl) (by kernel_rfl) (by kernel_rfl) (by kernel_rfl) (fun _ _ _ h => h) (Or.inl ⟨by rfl, ?_⟩) hS ?_
  · intro wq hq
    have dq0 := EX.out wq hq
    go_simp
  try simp only [Act.put, List.setIfInBounds_toArray, List.set_cons_zero, List.set_cons_succ, List.getElem_toArray, List.getElem_cons_zero, List.getElem_cons_succ]
  have HCa := HCd.out
  refine AnyTo.gone (i := 3) (by kernel_rfl) rfl (by rfl) (fun K hK => ?_)
  go_simp
  (with_reducible refine (KW.out _ HCa.bel HCa.hB).mono ?_)
  rintro e wc ⟨Ac, cc, rfl, hsr, hcc, hbc⟩
  have hS : SB Wd wc := SB.next (SB.refl Wd) hbc
  have HCa := HCa.next hbc
  dsimp only
  refine hK _ _ (fun _ => hS) ?_
  clear hK K
  try simp only [Act.put, List.setIfInBounds_toArray, List.set_cons_zero, List.set_cons_succ, List.getElem_toArray, List.getElem_cons_zero, List.getElem_cons_succ]
  refine AnyTo.gone (i := 4) (by kernel_rfl) rfl (by rfl) (fun K hK => ?_)
  refine wp_app (.tmp 34) (.tmp 37) rfl rfl B (.slice A6 l6 c6) Le.length (vbs Le) rfl HCa.ob Ac mw cc (vbs WB) rfl hsr hcc (by rw [Hmw.out]; omega) HCa.hB ?_
  intro vf wa h1 h2
  obtain ⟨ca, fa, hC, Axf, lxf, cxf, rfl⟩ := CapV.app HCa h1 h2
  refine hK _ _ (fun h => absurd h (by decide)) ?_
  clear hK K
  try simp only [Act.put, List.setIfInBounds_toArray, List.set_cons_zero, List.set_cons_succ, List.getElem_toArray, List.getElem_cons_zero, List.getElem_cons_succ]
  refine AnyTo.gone (i := 5) (by kernel_rfl) rfl (by rfl) (fun K hK => ?_)
  go_simp
  refine hK _ _ (fun h => absurd h (by decide)) ?_
  clear hK K
  try simp only [Act.put, List.setIfInBounds_toArray, List.set_cons_zero, List.set_cons_succ, List.getElem_toArray, List.getElem_cons_zero, List.getElem_cons_succ]
  refine AnyTo.done (by kernel_rfl) ?_ _
  try dsimp only [Exit.then]
  generalize wa.setCell ⟨cb, 0, none⟩ (.slice Axf lxf cxf) = wf at hC ⊢
  clear ca fa h1 h2 HCa HCd EC
  clear EX hsr hcc hbc hS
  obtain ⟨Lf, hLf⟩ : ∃ M, M = Le ++ WB := ⟨_, rfl⟩
  have hlLf : Lf.length ≤ 40000 := by rw [hLf, List.length_append]; omega
  have HLf := Lib.hid hLf
  rw [← hLf] at hC
  clear hLf
  go_upto_region 10 with fail
  generalize hWd : wf.drew = Wd
  have hCd : CapV w1 B cb (.slice Axf lxf cxf) Wd Lf := by rw [← hWd]; exact hC.drew
  have EC : Hid (∀ wq, SB Wd wq → wq.cell? ⟨cb, 0, none⟩ = some (.slice Axf lxf cxf)) := fun wq hq => hq.cell (hCd.blk.cell rfl)
  have EX : Hid (∀ wq, SB Wd wq → wq.cell? ⟨w.heap.size, 3, none⟩ = some (.int .u32 (lock : Int))) := fun wq hq => hq.cell (HT.out Wd hCd.bel).2.2
  have HCd := Lib.hid hCd
  clear hCd hC
  refine wp_region_to (z := 5) (SB Wd) (by kernel_rfl) ?_
  rw [hWd]
  have hS : SB Wd Wd := SB.refl Wd
  clear hWd
  refine AnyTo.take (i := 0) (v := (.slice Axf lxf cxf)) rfl (by kernel_rfl) (by kernel_rfl) (by kernel_rfl) (by kernel_rfl) (by kernel_rfl) (fun _ _ _ h => h) (Or.inl ⟨by rfl, ?_⟩) hS ?_
  · intro wq hq
    have dq0 := EC.out wq hq
    go_simp
  try simp only [Act.put, List.setIfInBounds_toArray, List.set_cons_zero, List.set_cons_succ, List.getElem_toArray, List.getElem_cons_zero, List.getElem_cons_succ]
  refine AnyTo.take (i := 1) (v := ?_) rfl (by kernel_rfl) (by kernel_rfl) (by kernel_rfl) (by kernel_rfl) (by kernel_rfl) (fun _ _ _ h => h) (Or.inl ⟨by rfl, ?_⟩) hS ?_
  rotate_left
  · (intro wq hq; go_simp; try with_reducible rfl)
  try simp only [Act.put, List.setIfInBounds_toArray, List.set_cons_zero, List.set_cons_succ, List.getElem_toArray, List.getElem_cons_zero, List.getElem_cons_succ]
  refine AnyTo.take (i := 2) (v := .int .u32 (lock : Int)) rfl (by kernel_rfl) (by kernel_rfl) (by kernel_rfl) (by kernel_rfl) (by kernel_rfl) (fun _ _ _ h => h) (Or.inl ⟨by rfl, ?_⟩) hS ?_
  · intro wq hq
    have dq0 := EX.out wq hq
    go_simp
  try simp only [Act.put, List.setIfInBounds_toArray, List.set_cons_zero, List.set_cons_succ, List.getElem_toArray, List.getElem_cons_zero, List.getElem_cons_succ]
  refine AnyTo.take (i := 3) (v := ?_) rfl (by kernel_rfl) (by kernel_rfl) (by kernel_rfl) (by kernel_rfl) (by kernel_rfl) (fun _ _ _ h => h) (Or.inl ⟨by rfl, ?_⟩) hS ?_
  rotate_left
  · (intro wq hq; go_simp; try with_reducible rfl)
  try simp only [Act.put, List.setIfInBounds_toArray, List.set_cons_zero, List.set_cons_succ, List.getElem_toArray, List.getElem_cons_zero, List.getElem_cons_succ]
  have HCa := HCd.out
  refine AnyTo.gone (i := 4) (by kernel_rfl) rfl (by rfl) (fun K hK => ?_)
  go_simp
  (with_reducible refine (KL.out _).mono ?_)
  rintro e wc ⟨Ac, cc, rfl, hsr, hcc, hbc⟩
  have hS : SB Wd wc := SB.next (SB.refl Wd) hbc
  have HCa := HCa.next hbc
  dsimp only
  refine hK _ _ (fun _ => hS) ?_
  clear hK K
  try simp only [Act.put, List.setIfInBounds_toArray, List.set_cons_zero, List.set_cons_succ, List.getElem_toArray, List.getElem_cons_zero, List.getElem_cons_succ]
  refine AnyTo.gone (i := 5) (by kernel_rfl) rfl (by rfl) (fun K hK => ?_)
  refine wp_app (.tmp 39) (.tmp 43) rfl rfl B (.slice Axf lxf cxf) Lf.length (vbs Lf) rfl HCa.ob Ac 4 cc (vbs (les lock 4)) rfl hsr hcc (by omega) HCa.hB ?_
  intro vz wa h1 h2
  have hz := OB.app HCa.ob HCa.bel HCa.hB (Nat.le_refl _) (by rw [les_len]; exact h1) h2
  refine hK _ _ (fun h => absurd h (by decide)) ?_
  clear hK K
  try simp only [Act.put, List.setIfInBounds_toArray, List.set_cons_zero, List.set_cons_succ, List.getElem_toArray, List.getElem_cons_zero, List.getElem_cons_succ]
  refine AnyTo.gone (i := 6) (by kernel_rfl) rfl (by rfl) (fun K hK => ?_)
  go_simp
  refine hK _ _ (fun h => absurd h (by decide)) ?_
  clear hK K
  try simp only [Act.put, List.setIfInBounds_toArray, List.set_cons_zero, List.set_cons_succ, List.getElem_toArray, List.getElem_cons_zero, List.getElem_cons_succ]
  refine AnyTo.done (by kernel_rfl) ?_ _
  try dsimp only [Exit.then]
  have HZz := Lib.hid hz
  clear hz h1 h2 HCa HCd EC EX hsr hcc hbc hS
  go_wp2_with fail
  go_ret
  refine ⟨_, rfl, ?_, ?_⟩
  · rw [HLB.out]
    have e : les ver 4 ++ [0, 1] ++ form n1 ++ XB ++ form n2 ++ YB ++ WB ++ les lock 4 = Lf ++ les lock 4 := by
      rw [HLf.out, HLe.out, HLd.out, HLc.out, HLb.out, HLa.out, HL0.out]
    rw [e]
    exact HZz.out.1.base (by omega)
  · exact Hb1.out.trans (Below.mono HZz.out.2 (by omega))
set_option maxHeartbeats 8000000 in
theorem written_false (t : TTx) (i o : Value) (w : World) (h : TxOk w w.heap.size t i o) (hc : chk t = 0) : Calls Try.prog 68 #[txV t i o, .bool false] w (LaidPost (layB t false) w) := by
  obtain ⟨hins, houts, hver, hlock⟩ := h
  obtain ⟨z1, z2, z3, z4, z5, _, _⟩ := chk_zero hc
  have hins' := hins
  have houts' := houts
  obtain ⟨A1, c1, rfl, _, _, r1⟩ := hins
  obtain ⟨A2, c2, rfl, _, _, r2⟩ := houts
  obtain ⟨n1, hn1⟩ : ∃ n, n = t.ins.length := ⟨_, rfl⟩
  obtain ⟨n2, hn2⟩ : ∃ n, n = t.outs.length := ⟨_, rfl⟩
  obtain ⟨ver, hv⟩ : ∃ n, n = t.ver := ⟨_, rfl⟩
  obtain ⟨lock, hlk⟩ : ∃ n, n = t.lock := ⟨_, rfl⟩
  have K1 := Lib.hid (fun wq => number_any 4 ver wq rfl (by rw [hv]; simpa using hver) (by omega))
  have KL := Lib.hid (fun wq => num4_w lock wq (by omega))
  have hwv : IntKind.u64.wrap (ver : Int) = (ver : Int) := by rw [IntKind.wrap_u64]; omega
  have hwl : IntKind.u64.wrap (lock : Int) = (lock : Int) := by rw [IntKind.wrap_u64]; omega
  have hn16 : n1 ≤ 16 := by omega
  have hn26 : n2 ≤ 16 := by omega
  obtain ⟨XB, hXB⟩ : ∃ L, L = (t.ins.map inB).flatten := ⟨_, rfl⟩
  obtain ⟨YB, hYB⟩ : ∃ L, L = (t.outs.map outB).flatten := ⟨_, rfl⟩
  have hXl : XB.length ≤ 3200 := by
    obtain ⟨_, _, b, o, _, _, hj⟩ := Row.open hins'
    have := flat_le inB 200 t.ins fun x hx => by
      obtain ⟨k, hk, rfl⟩ := List.getElem_of_mem hx
      obtain ⟨_, s, u, _, _, _, h32, _, _⟩ := hj k hk
      have e : t.ins.getD k In0 = t.ins[k] := by simp [List.getD, hk]
      rw [e] at h32
      exact inB_le (z3 _ hx) h32
    rw [← hXB] at this
    omega
  have hYl : YB.length ≤ 3200 := by
    have := flat_le outB 200 t.outs fun x hx => outB_le (z5 x hx)
    rw [← hYB] at this
    omega
  have hWl : (witsB t.ins).length ≤ 32000 := by
    have := flat_le witB 2000 t.ins (witB_le z4)
    unfold witsB
    omega
  rw [← hn1] at hins'
  rw [← hn2] at houts'
  have HI := Lib.hid hins'
  have HO := Lib.hid houts'
  have HE := Lib.hid (⟨hn1, hn2⟩ : n1 = t.ins.length ∧ n2 = t.outs.length)
  have HZ := Lib.hid (⟨z3, z4, z5⟩ : (∀ x ∈ t.ins, x.sc.length ≤ 128) ∧ WitOk t.ins ∧ (∀ y ∈ t.outs, y.sc.length ≤ 128))
  obtain ⟨LB, hLB⟩ : ∃ L, L = layB t false := ⟨_, rfl⟩
  have HLB : Hid (LB = les ver 4 ++ form n1 ++ XB ++ form n2 ++ YB ++ les lock 4) := show LB = les ver 4 ++ form n1 ++ XB ++ form n2 ++ YB ++ les lock 4 by rw [hLB, hXB, hYB, hn1, hn2, hv, hlk]; simp [layB]
  have HXB := Lib.hid hXB
  have HYB := Lib.hid hYB
  unfold txV
  rw [← hLB, ← hv, ← hlk, ← hn1, ← hn2]
  clear r1 r2 hins' houts' hn1 hn2 hv hlk z1 z2 z3 z4 z5 hc hver hlock hLB hXB hYB
  obtain ⟨m1, hm1⟩ : ∃ m, m = (form n1).length := ⟨_, rfl⟩
  obtain ⟨m2, hm2⟩ : ∃ m, m = (form n2).length := ⟨_, rfl⟩
  have hm1l : m1 ≤ 9 := by rw [hm1]; exact form_len9 _
  have hm2l : m2 ≤ 9 := by rw [hm2]; exact form_len9 _
  have KC1 := Lib.hid (fun wq => count_w n1 m1 wq (by omega) hm1.symm)
  have KC2 := Lib.hid (fun wq => count_w n2 m2 wq (by omega) hm2.symm)
  have Hm1 := Lib.hid hm1
  have Hm2 := Lib.hid hm2
  clear hm1 hm2
  go_enter Try.func68, Try.ntmps68
  go_upto_region 2 with (go_at_call 80; (refine (K1.out _).mono ?_); rintro e w2 ⟨v, rfl, ho, hb2⟩; obtain ⟨Av, cv, rfl, hrv, hcv⟩ := slice_form ho; dsimp only)
  obtain ⟨B, hBdef⟩ : ∃ B, B = (w.alloc (.cells #[.int .u32 (ver : Int), .slice A1 n1 c1, .slice A2 n2 c2, .int .u32 (lock : Int)] 60)).heap.size := ⟨_, rfl⟩
  have hb1 : Below w.heap.size w (w.alloc (.cells #[.int .u32 (ver : Int), .slice A1 n1 c1, .slice A2 n2 c2, .int .u32 (lock : Int)] 60)) := (Below.refl _ _).alloc (Nat.le_refl _) _
  have hlt : w.heap.size < B := by rw [hBdef]; simp
  have hT1 : (w.alloc (.cells #[.int .u32 (ver : Int), .slice A1 n1 c1, .slice A2 n2 c2, .int .u32 (lock : Int)] 60)).cell? ⟨w.heap.size, 1, none⟩ = some (.slice A1 n1 c1) := cell_new rfl rfl
  have hT2 : (w.alloc (.cells #[.int .u32 (ver : Int), .slice A1 n1 c1, .slice A2 n2 c2, .int .u32 (lock : Int)] 60)).cell? ⟨w.heap.size, 2, none⟩ = some (.slice A2 n2 c2) := cell_new rfl rfl
  have hT3 : (w.alloc (.cells #[.int .u32 (ver : Int), .slice A1 n1 c1, .slice A2 n2 c2, .int .u32 (lock : Int)] 60)).cell? ⟨w.heap.size, 3, none⟩ = some (.int .u32 (lock : Int)) := cell_new rfl rfl
  have hI1 := (HI.out.keep hb1 (Nat.le_refl _)).up (Nat.le_of_lt hlt)
  have hO1 := (HO.out.keep hb1 (Nat.le_refl _)).up (Nat.le_of_lt hlt)
  rw [← hBdef] at ho hb2
  have hBs := hBdef
  generalize w.alloc (.cells #[.int .u32 (ver : Int), .slice A1 n1 c1, .slice A2 n2 c2, .int .u32 (lock : Int)] 60) = w1 at hb1 hT1 hT2 hT3 hI1 hO1 ho hb2 hBdef hBs
  have HT : Hid (∀ wq, Below B w1 wq → wq.cell? ⟨w.heap.size, 1, none⟩ = some (.slice A1 n1 c1) ∧ wq.cell? ⟨w.heap.size, 2, none⟩ = some (.slice A2 n2 c2) ∧ wq.cell? ⟨w.heap.size, 3, none⟩ = some (.int .u32 (lock : Int))) := fun wq hq =>
    ⟨by rw [hq.cell (p := ⟨w.heap.size, 1, none⟩) hlt]; exact hT1, by rw [hq.cell (p := ⟨w.heap.size, 2, none⟩) hlt]; exact hT2, by rw [hq.cell (p := ⟨w.heap.size, 3, none⟩) hlt]; exact hT3⟩
  have hC : CapV w1 B w2.heap.size (.slice Av (les ver 4).length cv) (w2.alloc (.cells #[.slice Av (les ver 4).length cv] 22)) (les ver 4) :=
    ⟨Blk.new w2 22 #[.slice Av (les ver 4).length cv], ho.alloc _, hb2.alloc (by rw [hBdef]; exact hb2.size) _, by rw [hBdef]; exact hb2.size, by rw [hBdef]; exact Nat.le_refl _⟩
  obtain ⟨L0, hL0⟩ : ∃ L, L = les ver 4 := ⟨_, rfl⟩
  have hl0 : L0.length ≤ 4 := by rw [hL0, les_len]; exact Nat.le_refl _
  have HL0 := Lib.hid hL0
  rw [← hL0] at hC ⊢
  generalize w2.alloc (.cells #[.slice Av L0.length cv] 22) = w3 at hC ⊢
  generalize w2.heap.size = cb at hC ⊢
  generalize L0.length = lv at hC ⊢
  have Hb1 := Lib.hid hb1
  have HI1 := Lib.hid hI1
  have HO1 := Lib.hid hO1
  have HBs := Lib.hid hBs
  clear ho hb2 hrv hcv hT1 hT2 hT3 hI1 hO1 hb1 hBdef hBs hL0 hwv K1 HI HO
  go_upto_region 4 with fail
  generalize hWd : w3.drew = Wd
  have hCd : CapV w1 B cb (.slice Av lv cv) Wd L0 := by rw [← hWd]; exact hC.drew
  have EC : Hid (∀ wq, SB Wd wq → wq.cell? ⟨cb, 0, none⟩ = some (.slice Av lv cv)) := fun wq hq => hq.cell (hCd.blk.cell rfl)
  have EX : Hid (∀ wq, SB Wd wq → wq.cell? ⟨w.heap.size, 1, none⟩ = some (.slice A1 n1 c1)) := fun wq hq => hq.cell (HT.out Wd hCd.bel).1
  have HCd := Lib.hid hCd
  clear hCd hC
  refine wp_region_to (z := 5) (SB Wd) (by kernel_rfl) ?_
  rw [hWd]
  have hS : SB Wd Wd := SB.refl Wd
  clear hWd
  refine AnyTo.take (i := 0) (v := (.slice Av lv cv)) rfl (by kernel_rfl) (by kernel_rfl) (by kernel_rfl) (by kernel_rfl) (by kernel_rfl) (fun _ _ _ h => h) (Or.inl ⟨by rfl, ?_⟩) hS ?_
  · intro wq hq
    have dq0 := EC.out wq hq
    go_simp
  try simp only [Act.put, List.setIfInBounds_toArray, List.set_cons_zero, List.set_cons_succ, List.getElem_toArray, List.getElem_cons_zero, List.getElem_cons_succ]
  refine AnyTo.take (i := 1) (v := ?_) rfl (by kernel_rfl) (by kernel_rfl) (by kernel_rfl) (by kernel_rfl) (by kernel_rfl) (fun _ _ _ h => h) (Or.inl ⟨by rfl, ?_⟩) hS ?_
  rotate_left
  · (intro wq hq; go_simp; try with_reducible rfl)
  try simp only [Act.put, List.setIfInBounds_toArray, List.set_cons_zero, List.set_cons_succ, List.getElem_toArray, List.getElem_cons_zero, List.getElem_cons_succ]
  refine AnyTo.take (i := 2) (v := .slice A1 n1 c1) rfl (by kernel_rfl) (by kernel_rfl) (by kernel_rfl) (by kernel_rfl) (by kernel_rfl) (fun _ _ _ h => h) (Or.inl ⟨by rfl, ?_⟩) hS ?_
  · intro wq hq
    have dq0 := EX.out wq hq
    go_simp
  try simp only [Act.put, List.setIfInBounds_toArray, List.set_cons_zero, List.set_cons_succ, List.getElem_toArray, List.getElem_cons_zero, List.getElem_cons_succ]
  refine AnyTo.take (i := 3) (v := ?_) rfl (by kernel_rfl) (by kernel_rfl) (by kernel_rfl) (by kernel_rfl) (by kernel_rfl) (fun _ _ _ h => h) (Or.inl ⟨by rfl, ?_⟩) hS ?_
  rotate_left
  · (intro wq hq; go_simp; try with_reducible rfl)
  try simp only [Act.put, List.setIfInBounds_toArray, List.set_cons_zero, List.set_cons_succ, List.getElem_toArray, List.getElem_cons_zero, List.getElem_cons_succ]
  have HCa := HCd.out
  refine AnyTo.gone (i := 4) (by kernel_rfl) rfl (by rfl) (fun K hK => ?_)
  go_simp
  (with_reducible refine (KC1.out _).mono ?_)
  rintro e wc ⟨Ac, cc, rfl, hsr, hcc, hbc⟩
  have hS : SB Wd wc := SB.next (SB.refl Wd) hbc
  have HCa := HCa.next hbc
  dsimp only
  refine hK _ _ (fun _ => hS) ?_
  clear hK K
  try simp only [Act.put, List.setIfInBounds_toArray, List.set_cons_zero, List.set_cons_succ, List.getElem_toArray, List.getElem_cons_zero, List.getElem_cons_succ]
  refine AnyTo.gone (i := 5) (by kernel_rfl) rfl (by rfl) (fun K hK => ?_)
  refine wp_app (.tmp 13) (.tmp 17) rfl rfl B (.slice Av lv cv) L0.length (vbs L0) rfl HCa.ob Ac m1 cc (vbs (form n1)) rfl hsr hcc (by omega) HCa.hB ?_
  intro vb wa h1 h2
  obtain ⟨ca, fa, hC, Axb, lxb, cxb, rfl⟩ := CapV.app HCa h1 h2
  refine hK _ _ (fun h => absurd h (by decide)) ?_
  clear hK K
  try simp only [Act.put, List.setIfInBounds_toArray, List.set_cons_zero, List.set_cons_succ, List.getElem_toArray, List.getElem_cons_zero, List.getElem_cons_succ]
  refine AnyTo.gone (i := 6) (by kernel_rfl) rfl (by rfl) (fun K hK => ?_)
  go_simp
  refine hK _ _ (fun h => absurd h (by decide)) ?_
  clear hK K
  try simp only [Act.put, List.setIfInBounds_toArray, List.set_cons_zero, List.set_cons_succ, List.getElem_toArray, List.getElem_cons_zero, List.getElem_cons_succ]
  refine AnyTo.done (by kernel_rfl) ?_ _
  try dsimp only [Exit.then]
  generalize wa.setCell ⟨cb, 0, none⟩ (.slice Axb lxb cxb) = wb at hC ⊢
  clear ca fa h1 h2 HCa HCd EC
  clear EX hsr hcc hbc hS
  obtain ⟨Lb, hLb⟩ : ∃ M, M = L0 ++ form n1 := ⟨_, rfl⟩
  have hlLb : Lb.length ≤ 16 := by rw [hLb, List.length_append]; rw [← Hm1.out]; omega
  have HLb := Lib.hid hLb
  rw [← hLb] at hC
  clear hLb
  have KE := Lib.hid (ins_wr t.ins A1 n1 c1 B cb w1 wb _ Lb HE.out.1 HI1.out hn16 HZ.out.1 (by omega) hC)
  rw [← HXB.out] at KE
  have c1' := (HT.out wb hC.bel).1
  clear hC
  go_upto_region 6 with (go_at_call 82; (with_reducible refine KE.out.mono ?_); rintro e w5 ⟨rfl, v5, hC⟩; obtain ⟨A5, c5, rfl, _, _⟩ := slice_form hC.ob; dsimp only)
  clear KE c1'
  obtain ⟨Lc, hLc⟩ : ∃ M, M = Lb ++ XB := ⟨_, rfl⟩
  have hlLc : Lc.length ≤ 3300 := by rw [hLc, List.length_append]; omega
  have HLc := Lib.hid hLc
  rw [← hLc] at hC
  clear hLc
  generalize Lc.length = l5 at hC
  generalize hWd : w5.drew = Wd
  have hCd : CapV w1 B cb (.slice A5 l5 c5) Wd Lc := by rw [← hWd]; exact hC.drew
  have EC : Hid (∀ wq, SB Wd wq → wq.cell? ⟨cb, 0, none⟩ = some (.slice A5 l5 c5)) := fun wq hq => hq.cell (hCd.blk.cell rfl)
  have EX : Hid (∀ wq, SB Wd wq → wq.cell? ⟨w.heap.size, 2, none⟩ = some (.slice A2 n2 c2)) := fun wq hq => hq.cell (HT.out Wd hCd.bel).2.1
  have HCd := Lib.hid hCd
  clear hCd hC
  refine wp_region_to (z := 5) (SB Wd) (by kernel_rfl) ?_
  rw [hWd]
  have hS : SB Wd Wd := SB.refl Wd
  clear hWd
  refine AnyTo.take (i := 0) (v := (.slice A5 l5 c5)) rfl (by kernel_rfl) (by kernel_rfl) (by kernel_rfl) (by kernel_rfl) (by kernel_rfl) (fun _ _ _ h => h) (Or.inl ⟨by rfl, ?_⟩) hS ?_
  · intro wq hq
    have dq0 := EC.out wq hq
    go_simp
  try simp only [Act.put, List.setIfInBounds_toArray, List.set_cons_zero, List.set_cons_succ, List.getElem_toArray, List.getElem_cons_zero, List.getElem_cons_succ]
  refine AnyTo.take (i := 1) (v := ?_) rfl (by kernel_rfl) (by kernel_rfl) (by kernel_rfl) (by kernel_rfl) (by kernel_rfl) (fun _ _ _ h => h) (Or.inl ⟨by rfl, ?_⟩) hS ?_
  rotate_left
  · (intro wq hq; go_simp; try with_reducible rfl)
  try simp only [Act.put, List.setIfInBounds_toArray, List.set_cons_zero, List.set_cons_succ, List.getElem_toArray, List.getElem_cons_zero, List.getElem_cons_succ]
  refine AnyTo.take (i := 2) (v := .slice A2 n2 c2) rfl (by kernel_rfl) (by kernel_rfl) (by kernel_rfl) (by kernel_rfl) (by kernel_rfl) (fun _ _ _ h => h) (Or.inl ⟨by rfl, ?_⟩) hS ?_
  · intro wq hq
    have dq0 := EX.out wq hq
    go_simp
  try simp only [Act.put, List.setIfInBounds_toArray, List.set_cons_zero, List.set_cons_succ, List.getElem_toArray, List.getElem_cons_zero, List.getElem_cons_succ]
  refine AnyTo.take (i := 3) (v := ?_) rfl (by kernel_rfl) (by kernel_rfl) (by kernel_rfl) (by kernel_rfl) (by kernel_rfl) (fun _ _ _ h => h) (Or.inl ⟨by rfl, ?_⟩) hS ?_
  rotate_left
  · (intro wq hq; go_simp; try with_reducible rfl)
  try simp only [Act.put, List.setIfInBounds_toArray, List.set_cons_zero, List.set_cons_succ, List.getElem_toArray, List.getElem_cons_zero, List.getElem_cons_succ]
  have HCa := HCd.out
  refine AnyTo.gone (i := 4) (by kernel_rfl) rfl (by rfl) (fun K hK => ?_)
  go_simp
  (with_reducible refine (KC2.out _).mono ?_)
  rintro e wc ⟨Ac, cc, rfl, hsr, hcc, hbc⟩
  have hS : SB Wd wc := SB.next (SB.refl Wd) hbc
  have HCa := HCa.next hbc
  dsimp only
  refine hK _ _ (fun _ => hS) ?_
  clear hK K
  try simp only [Act.put, List.setIfInBounds_toArray, List.set_cons_zero, List.set_cons_succ, List.getElem_toArray, List.getElem_cons_zero, List.getElem_cons_succ]
  refine AnyTo.gone (i := 5) (by kernel_rfl) rfl (by rfl) (fun K hK => ?_)
  refine wp_app (.tmp 23) (.tmp 27) rfl rfl B (.slice A5 l5 c5) Lc.length (vbs Lc) rfl HCa.ob Ac m2 cc (vbs (form n2)) rfl hsr hcc (by omega) HCa.hB ?_
  intro vd wa h1 h2
  obtain ⟨ca, fa, hC, Axd, lxd, cxd, rfl⟩ := CapV.app HCa h1 h2
  refine hK _ _ (fun h => absurd h (by decide)) ?_
  clear hK K
  try simp only [Act.put, List.setIfInBounds_toArray, List.set_cons_zero, List.set_cons_succ, List.getElem_toArray, List.getElem_cons_zero, List.getElem_cons_succ]
  refine AnyTo.gone (i := 6) (by kernel_rfl) rfl (by rfl) (fun K hK => ?_)
  go_simp
  refine hK _ _ (fun h => absurd h (by decide)) ?_
  clear hK K
  try simp only [Act.put, List.setIfInBounds_toArray, List.set_cons_zero, List.set_cons_succ, List.getElem_toArray, List.getElem_cons_zero, List.getElem_cons_succ]
  refine AnyTo.done (by kernel_rfl) ?_ _
  try dsimp only [Exit.then]
  generalize wa.setCell ⟨cb, 0, none⟩ (.slice Axd lxd cxd) = wd at hC ⊢
  clear ca fa h1 h2 HCa HCd EC
  clear EX hsr hcc hbc hS
  obtain ⟨Ld, hLd⟩ : ∃ M, M = Lc ++ form n2 := ⟨_, rfl⟩
  have hlLd : Ld.length ≤ 3400 := by rw [hLd, List.length_append]; rw [← Hm2.out]; omega
  have HLd := Lib.hid hLd
  rw [← hLd] at hC
  clear hLd
  have KE := Lib.hid (outs_wr t.outs A2 n2 c2 B cb w1 wd _ Ld HE.out.2 HO1.out hn26 HZ.out.2.2 (by omega) hC)
  rw [← HYB.out] at KE
  have c2' := (HT.out wd hC.bel).2.1
  clear hC
  go_upto_region 8 with (go_at_call 85; (with_reducible refine KE.out.mono ?_); rintro e w6 ⟨rfl, v6, hC⟩; obtain ⟨A6, c6, rfl, _, _⟩ := slice_form hC.ob; dsimp only)
  clear KE c2'
  obtain ⟨Le, hLe⟩ : ∃ M, M = Ld ++ YB := ⟨_, rfl⟩
  have hlLe : Le.length ≤ 6700 := by rw [hLe, List.length_append]; omega
  have HLe := Lib.hid hLe
  rw [← hLe] at hC
  clear hLe
  generalize Le.length = l6 at hC
  go_upto_region 10 with fail
  generalize hWd : w6.drew = Wd
  have hCd : CapV w1 B cb (.slice A6 l6 c6) Wd Le := by rw [← hWd]; exact hC.drew
  have EC : Hid (∀ wq, SB Wd wq → wq.cell? ⟨cb, 0, none⟩ = some (.slice A6 l6 c6)) := fun wq hq => hq.cell (hCd.blk.cell rfl)
  have EX : Hid (∀ wq, SB Wd wq → wq.cell? ⟨w.heap.size, 3, none⟩ = some (.int .u32 (lock : Int))) := fun wq hq => hq.cell (HT.out Wd hCd.bel).2.2
  have HCd := Lib.hid hCd
  clear hCd hC
  refine wp_region_to (z := 5) (SB Wd) (by kernel_rfl) ?_
  rw [hWd]
  have hS : SB Wd Wd := SB.refl Wd
  clear hWd
  refine AnyTo.take (i := 0) (v := (.slice A6 l6 c6)) rfl (by kernel_rfl) (by kernel_rfl) (by kernel_rfl) (by kernel_rfl) (by kernel_rfl) (fun _ _ _ h => h) (Or.inl ⟨by rfl, ?_⟩) hS ?_
  · intro wq hq
    have dq0 := EC.out wq hq
    go_simp
  try simp only [Act.put, List.setIfInBounds_toArray, List.set_cons_zero, List.set_cons_succ, List.getElem_toArray, List.getElem_cons_zero, List.getElem_cons_succ]
  refine AnyTo.take (i := 1) (v := ?_) rfl (by kernel_rfl) (by kernel_rfl) (by kernel_rfl) (by kernel_rfl) (by kernel_rfl) (fun _ _ _ h => h) (Or.inl ⟨by rfl, ?_⟩) hS ?_
  rotate_left
  · (intro wq hq; go_simp; try with_reducible rfl)
  try simp only [Act.put, List.setIfInBounds_toArray, List.set_cons_zero, List.set_cons_succ, List.getElem_toArray, List.getElem_cons_zero, List.getElem_cons_succ]
  refine AnyTo.take (i := 2) (v := .int .u32 (lock : Int)) rfl (by kernel_rfl) (by kernel_rfl) (by kernel_rfl) (by kernel_rfl) (by kernel_rfl) (fun _ _ _ h => h) (Or.inl ⟨by rfl, ?_⟩) hS ?_
  · intro wq hq
    have dq0 := EX.out wq hq
    go_simp
  try simp only [Act.put, List.setIfInBounds_toArray, List.set_cons_zero, List.set_cons_succ, List.getElem_toArray, List.getElem_cons_zero, List.getElem_cons_succ]
  refine AnyTo.take (i := 3) (v := ?_) rfl (by kernel_rfl) (by kernel_rfl) (by kernel_rfl) (by kernel_rfl) (by kernel_rfl) (fun _ _ _ h => h) (Or.inl ⟨by rfl, ?_⟩) hS ?_
  rotate_left
  · (intro wq hq; go_simp; try with_reducible rfl)
  try simp only [Act.put, List.setIfInBounds_toArray, List.set_cons_zero, List.set_cons_succ, List.getElem_toArray, List.getElem_cons_zero, List.getElem_cons_succ]
  have HCa := HCd.out
  refine AnyTo.gone (i := 4) (by kernel_rfl) rfl (by rfl) (fun K hK => ?_)
  go_simp
  (with_reducible refine (KL.out _).mono ?_)
  rintro e wc ⟨Ac, cc, rfl, hsr, hcc, hbc⟩
  have hS : SB Wd wc := SB.next (SB.refl Wd) hbc
  have HCa := HCa.next hbc
  dsimp only
  refine hK _ _ (fun _ => hS) ?_
  clear hK K
  try simp only [Act.put, List.setIfInBounds_toArray, List.set_cons_zero, List.set_cons_succ, List.getElem_toArray, List.getElem_cons_zero, List.getElem_cons_succ]
  refine AnyTo.gone (i := 5) (by kernel_rfl) rfl (by rfl) (fun K hK => ?_)
  refine wp_app (.tmp 39) (.tmp 43) rfl rfl B (.slice A6 l6 c6) Le.length (vbs Le) rfl HCa.ob Ac 4 cc (vbs (les lock 4)) rfl hsr hcc (by omega) HCa.hB ?_
  intro vz wa h1 h2
  have hz := OB.app HCa.ob HCa.bel HCa.hB (Nat.le_refl _) (by rw [les_len]; exact h1) h2
  refine hK _ _ (fun h => absurd h (by decide)) ?_
  clear hK K
  try simp only [Act.put, List.setIfInBounds_toArray, List.set_cons_zero, List.set_cons_succ, List.getElem_toArray, List.getElem_cons_zero, List.getElem_cons_succ]
  refine AnyTo.gone (i := 6) (by kernel_rfl) rfl (by rfl) (fun K hK => ?_)
  go_simp
  refine hK _ _ (fun h => absurd h (by decide)) ?_
  clear hK K
  try simp only [Act.put, List.setIfInBounds_toArray, List.set_cons_zero, List.set_cons_succ, List.getElem_toArray, List.getElem_cons_zero, List.getElem_cons_succ]
  refine AnyTo.done (by kernel_rfl) ?_ _
  try dsimp only [Exit.then]
  have HZz := Lib.hid hz
  clear hz h1 h2 HCa HCd EC EX hsr hcc hbc hS
  go_wp2_with fail
  go_ret
  refine ⟨_, rfl, ?_, ?_⟩
  · rw [HLB.out]
    have e : les ver 4 ++ form n1 ++ XB ++ form n2 ++ YB ++ les lock 4 = Le ++ les lock 4 := by
      rw [HLe.out, HLd.out, HLc.out, HLb.out, HL0.out]
    rw [e]
    exact HZz.out.1.base (by omega)
  · exact Hb1.out.trans (Below.mono HZz.out.2 (by omega))
theorem written_any (t : TTx) (i o : Value) (full : Bool) (w : World) (h : TxOk w w.heap.size t i o) (hc : chk t = 0) : Calls Try.prog 68 #[txV t i o, .bool full] w (LaidPost (layB t full) w) := by
  cases full with
  | true => exact written_true t i o w h hc
  | false => exact written_false t i o w h hc
open Go.RowKit
set_option linter.unusedVariables false
set_option linter.unusedSimpArgs false
set_option maxRecDepth 100000
theorem int3 : Try.prog.underlying 3 = some (.int .i64) := by kernel_rfl
theorem run_grow (w : World) (n : Nat) (h0 : 0 < n) (hn : n ≤ 100000000) : ∃ C G, (Builtin.append_ #[22, 3] 22 #[.slice none 0 0, .int .i64 (n : Int)]).run Try.prog w = .ok (.slice (some ⟨w.heap.size, 0, none⟩) n G) (w.drew.alloc (.cells C 5)) ∧
    OB (w.drew.alloc (.cells C 5)) w.heap.size (.slice (some ⟨w.heap.size, 0, none⟩) 0 G) [] ∧ n ≤ G ∧ G ≤ 9223372036854775807 := by
  obtain ⟨i0, hi, hz0, hz1, hz2⟩ := info_parts info5
  have hr := Lib.run_append_nil_zeros (P := Try.prog) w 22 3 22 5 i0 (.int .u8 0) .i64 .i64 Try.underlying22 int3 hi hz0 n h0 (by omega) (by omega) (by rw [hz2]; omega)
  refine ⟨_, _, hr, ?_, grownCap_ge w n 0 5, by have := grownCap_le_maxLen w n 0 5 (by unfold maxLen; omega); unfold maxLen at this; omega⟩
  have hge := grownCap_ge w n 0 5
  have hcm := grownCap_le_maxLen w n 0 5 (by unfold maxLen; omega)
  generalize grownCap w n 0 5 = G at hge hcm ⊢
  refine ⟨rfl, .inr ⟨w.heap.size, G, _, rfl, Nat.le_refl _, heap_alloc_new w.drew _, by simp, hcm, ?_, ?_⟩⟩
  · simp [size_zeroCells, Value.cells]; omega
  · simp [vbs]
set_option maxHeartbeats 4000000 in
theorem grow_any (n : Nat) (hn : n ≤ 100000000) (w : World) : Calls Try.prog 65 #[.slice none 0 0, .int .i64 (n : Int)] w (LaidPost [] w) := by
  by_cases h0 : 0 < n
  · obtain ⟨C, G, hr, ho, hg, hg2⟩ := run_grow w n h0 hn
    have HR := Lib.hid hr
    have HO := Lib.hid ho
    have h1 : (0 : Int) < (n : Int) := by omega
    have h2 : ¬ (n : Int) < 0 := by omega
    have hb : Hid (Below w.heap.size w (w.drew.alloc (.cells C 5))) := ((Below.refl w.heap.size w).drew).alloc (by simp) _
    clear hr ho
    go_enter Try.func65, Try.ntmps65
    go_wp2_with (refine Lib.wpList_append_run (o := ⟨some 22, _, _, _, _, _⟩) _ rfl (.tmp 20) (.tmp 21) 22 3 rfl (.slice none 0 0) (.int .i64 (n : Int)) rfl rfl _ _ HR.out ?_)
    go_ret
    exact ⟨_, rfl, HO.out, hb.out⟩
  · obtain rfl : n = 0 := by omega
    have hb : Hid (Below w.heap.size w w) := Below.refl _ _
    show Calls Try.prog 65 #[.slice none 0 0, .int .i64 0] w (LaidPost [] w)
    go_enter Try.func65, Try.ntmps65
    go_wp2_with fail
    go_ret
    exact ⟨_, rfl, OB.nil _ _, hb.out⟩
set_option maxHeartbeats 4000000 in
theorem concat_any (Ls : List (List (BitVec 8))) (v : Value) (w : World) (h : Ws w w.heap.size v Ls) (hn1 : Ls.length ≤ 100) (hl : ∀ L ∈ Ls, L.length ≤ 100000) :
    Calls Try.prog 54 #[v] w (LaidPost Ls.flatten w) := by
  obtain ⟨A, cap, b, o, rfl, hA, hj⟩ := Row.open h
  obtain ⟨n, hn⟩ : ∃ n, n = Ls.length := ⟨_, rfl⟩
  have hbd : ∀ i, i ≤ n → (Ls.take i).flatten.length ≤ i * 100000 := fun i hi => by
    have := flat_le (fun x => x) 100000 (Ls.take i) (take_sub hl)
    rw [List.map_id'] at this
    rw [List.length_take, Nat.min_eq_left (by omega)] at this
    exact this
  have hsucc : ∀ i, i < n → (Ls.take (i + 1)).flatten = (Ls.take i).flatten ++ Ls.getD i [] := fun i hi => by
    have := flat_succ (fun x => x) Ls [] i (by omega)
    simpa using this
  have hJ : Hid (∀ i, i < n → ∃ Ai ci, A = some ⟨b, o, none⟩ ∧ b < w.heap.size ∧ w.cell? ⟨b, o + i, none⟩ = some (.slice Ai (Ls.getD i []).length ci) ∧ Rd w w.heap.size Ai (Ls.getD i []) ∧ (Ai = none → ci = 0)) := fun i hi => by
    obtain ⟨hlt, u, hc, Ai, ci, rfl, hrd, _, _, hcn⟩ := hj i (by omega)
    rw [Nat.mul_one] at hc
    exact ⟨Ai, ci, hA (by omega), hlt, hc, hrd, hcn⟩
  have HBd := Lib.hid hbd
  have HSu := Lib.hid hsucc
  have Hn := Lib.hid hn
  have hn100 : n ≤ 100 := by omega
  have KG := Lib.hid grow_any
  have HF : Hid ((Ls.take n).flatten = Ls.flatten) := show (Ls.take n).flatten = Ls.flatten by rw [List.take_of_length_le (by omega)]
  rw [← hn]
  clear h hA hj hbd hsucc hn hl hn1
  go_enter Try.func54, Try.ntmps54
  go_wp2_with fail
  go_loopw [3, 11] (fun sv iv wq => ∃ i : Nat, i ≤ n ∧ iv = .int .i64 (i : Int) ∧ sv = .int .i64 (((Ls.take i).flatten.length : Nat) : Int) ∧ wq = w) (fun _ iv _ => n - (intOf iv).toNat)
  case atStart => exact ⟨0, Nat.zero_le _, rfl, rfl, rfl⟩
  case round =>
    obtain ⟨i, hi, rfl, rfl, hw⟩ := hrel
    have hw' := hw.symm
    subst hw'
    clear hw
    by_cases hlt : i < n
    · have hlt' : (i : Int) < (n : Int) := by omega
      obtain ⟨Ai, ci, rfl, hbl, hc, _, _⟩ := hJ.out i hlt
      have hb1 := HBd.out i hi
      have hb2 := HBd.out (i + 1) hlt
      have hs := HSu.out i hlt
      have hs2 : (Ls.take (i + 1)).flatten.length = (Ls.take i).flatten.length + (Ls.getD i []).length := by rw [hs, List.length_append]
      obtain ⟨a, ha⟩ : ∃ a, a = (Ls.take i).flatten.length := ⟨_, rfl⟩
      obtain ⟨l, hl⟩ : ∃ l, l = (Ls.getD i []).length := ⟨_, rfl⟩
      obtain ⟨a2, ha2⟩ : ∃ a, a = (Ls.take (i + 1)).flatten.length := ⟨_, rfl⟩
      rw [← ha] at hb1 hs2 ⊢
      rw [← hl] at hs2 hc
      rw [← ha2] at hb2 hs2
      have hsum : (a : Int) + (l : Int) = (a2 : Int) := by omega
      have hng : ¬ (a2 : Int) < 0 := by omega
      have ha2l : a2 ≤ 10100000 := by omega
      have Ha2 := Lib.hid ha2
      clear hs hs2 ha hl ha2
      go_wp2_with fail
      go_roundw
      case rel => exact ⟨i + 1, by omega, by go_num, by rw [← Ha2.out], by first | trivial | rfl⟩
      case measure => simp [intOf]; omega
    · obtain rfl : i = n := by omega
      have hlt' : ¬ (i : Int) < (i : Int) := by omega
      have hb1 := HBd.out i (Nat.le_refl _)
      have K := Lib.hid (KG.out (Ls.take i).flatten.length (by omega) w)
      obtain ⟨a, ha⟩ : ∃ a, a = (Ls.take i).flatten.length := ⟨_, rfl⟩
      rw [← ha] at K ⊢
      clear ha hb1 KG
      go_wp2_with (go_at_call 65; (refine K.out.mono ?_); rintro e w1 ⟨v1, rfl, ho1, hb1⟩; dsimp only)
      go_loopw [6, 27] (fun vv iv wq => ∃ j : Nat, j ≤ i ∧ iv = .int .i64 (j : Int) ∧ OB wq w.heap.size vv (Ls.take j).flatten ∧ Below w.heap.size w wq) (fun _ iv _ => i - (intOf iv).toNat)
      case atStart => exact ⟨0, Nat.zero_le _, rfl, ho1, hb1⟩
      case round =>
        clear ho1 hb1 K
        obtain ⟨j, hj, rfl, ho, hb⟩ := hrel
        by_cases hjt : j < i
        · have hjt' : (j : Int) < (i : Int) := by omega
          obtain ⟨Ai, ci, rfl, hbl, hc, hrd, hcn⟩ := hJ.out j hjt
          have c0 : wr.cell? ⟨b, o + j, none⟩ = some (.slice Ai (Ls.getD j []).length ci) := by rw [hb.cell (p := ⟨b, o + j, none⟩) hbl]; exact hc
          have hbd := HBd.out j hj
          have hbd2 := HBd.out (j + 1) hjt
          have hs := HSu.out j hjt
          have hs2 : (Ls.take (j + 1)).flatten.length = (Ls.take j).flatten.length + (Ls.getD j []).length := by rw [hs, List.length_append]
          obtain ⟨X, hX⟩ : ∃ X, X = (Ls.take j).flatten := ⟨_, rfl⟩
          obtain ⟨Y, hY⟩ : ∃ Y, Y = Ls.getD j [] := ⟨_, rfl⟩
          rw [← hX] at ho hbd hs hs2
          rw [← hY] at c0 hrd hs hs2
          obtain ⟨l, hl⟩ : ∃ l, l = Y.length := ⟨_, rfl⟩
          have HSr : Hid (Src22 wr Ai l (vbs Y)) := show Src22 wr Ai l (vbs Y) by rw [hl]; exact src_of_rd (hrd.keep hb)
          have Hsr2 : Hid (Src22 wr Ai Y.length (vbs Y)) := show Src22 wr Ai Y.length (vbs Y) from src_of_rd (hrd.keep hb)
          have HLe : Hid (X.length + Y.length ≤ 140737488355328) := show X.length + Y.length ≤ 140737488355328 by omega
          have HO := Lib.hid ho
          have HB := Lib.hid hb
          have Hs := Lib.hid hs
          have Hl := Lib.hid hl
          have Hcn := Lib.hid hcn
          rw [← hl] at c0
          clear hc hrd hbd hbd2 hs hs2 hX hY hl ho hb hbl hcn
          go_wp2_with (refine wpList_push (o := ⟨some 33, _, _, _, _, _⟩) rfl (.tmp 31) (.tmp 32) rfl rfl w.heap.size _ X Y rfl HO.out Ai l ci rfl Hl.out Hsr2.out Hcn.out HLe.out HB.out HB.out.size (Nat.le_refl _) ?_; intro v3 w3 h1 h2 h3)
          go_roundw
          case rel => exact ⟨j + 1, by omega, by go_num, by rw [Hs.out]; exact h1, h2⟩
          case measure => simp [intOf]; omega
        · obtain rfl : j = i := by omega
          have hjt' : ¬ (j : Int) < (j : Int) := by omega
          rw [HF.out] at ho
          have HO := Lib.hid ho
          have HB := Lib.hid hb
          clear ho hb
          go_wp2_with fail
          go_ret
          exact ⟨_, rfl, HO.out, HB.out⟩
open Go.RowKit
set_option linter.unusedVariables false
set_option linter.unusedSimpArgs false
set_option maxRecDepth 100000
/-- A new slice with the bytes X, and nought, are told. -/
def GavePost (X : List (BitVec 8)) (w : World) (e : Ending) (w' : World) : Prop :=
  ∃ A c, e = .returned (.tuple #[.slice A X.length c, .int .i64 0]) ∧ OB w' w.heap.size (.slice A X.length c) X ∧ Below w.heap.size w w'
/-- No bytes are told, and why. -/
def NonePost (c : Int) (w : World) (e : Ending) (w' : World) : Prop :=
  e = .returned (.tuple #[.slice none 0 0, .int .i64 c]) ∧ Below w.heap.size w w'
theorem lay_len {t : TTx} {i o : Value} {w : World} (full : Bool) (h : TxOk w w.heap.size t i o) (hc : chk t = 0) : (layB t full).length ≤ 100000 := by
  obtain ⟨z1, z2, z3, z4, z5, _, _⟩ := chk_zero hc
  have h1 : (t.ins.map inB).flatten.length ≤ 3200 := by
    obtain ⟨_, _, b, o, _, _, hj⟩ := Row.open h.1
    have := flat_le inB 200 t.ins fun x hx => by
      obtain ⟨k, hk, rfl⟩ := List.getElem_of_mem hx
      obtain ⟨_, s, u, _, _, _, h32, _, _⟩ := hj k hk
      have e : t.ins.getD k In0 = t.ins[k] := by simp [List.getD, hk]
      rw [e] at h32
      exact inB_le (z3 _ hx) h32
    omega
  have h2 := flat_le outB 200 t.outs fun x hx => outB_le (z5 x hx)
  have h3 : (witsB t.ins).length ≤ 32000 := by
    have := flat_le witB 2000 t.ins (witB_le z4)
    unfold witsB
    omega
  have h4 := form_len9 t.ins.length
  have h5 := form_len9 t.outs.length
  unfold layB
  generalize (t.ins.map inB).flatten = XB at h1 ⊢
  generalize (t.outs.map outB).flatten = YB at h2 ⊢
  generalize witsB t.ins = WB at h3 ⊢
  cases full
  · rw [if_neg (by decide), if_neg (by decide)]
    simp only [List.length_append, les_len, List.length_nil]
    omega
  · rw [if_pos rfl, if_pos rfl]
    simp only [List.length_append, les_len, List.length_cons, List.length_nil]
    omega
theorem two_ws {w : World} {B g : Nat} {v1 v2 : Value} {X Y : List (BitVec 8)} (hb : Blk w g 22 [v1, v2]) (hg : g < B) (h1 : Sl w B v1 X) (h2 : Sl w B v2 Y) : Ws w B (.slice (some ⟨g, 0, none⟩) 2 2) [X, Y] := by
  refine ⟨_, 2, rfl, Nat.le_refl _, by omega, fun _ => ⟨g, 0, rfl, hg, fun j hj => ?_⟩⟩
  have : j = 0 ∨ j = 1 := by simp at hj; omega
  rcases this with rfl | rfl
  · exact ⟨v1, hb.cell rfl, h1⟩
  · exact ⟨v2, hb.cell rfl, h2⟩
theorem OB.sl {w : World} {B B' : Nat} {v : Value} {L : List (BitVec 8)} (h : OB w B v L) (hB : w.heap.size ≤ B') : Sl w B' v L := by
  obtain ⟨A, c, e, hr, h1, h2, h3⟩ := h.rd
  exact ⟨A, c, e, hr.up hB, h1, h2, h3⟩
set_option maxHeartbeats 4000000 in
theorem put_ok (t : TTx) (i o b : Value) (L : List (BitVec 8)) (full : Bool) (w : World) (h : TxOk w w.heap.size t i o) (hL : Sl w w.heap.size b L) (hl : L.length ≤ 100000) (hc : chk t = 0) :
    Calls Try.prog 56 #[b, txV t i o, .bool full] w (GavePost (L ++ layB t full) w) := by
  have h' := h
  have hlen := lay_len full h hc
  obtain ⟨⟨A1, c1, rfl, _, _, _⟩, ⟨A2, c2, rfl, _, _, _⟩, _, _⟩ := h
  obtain ⟨n1, hn1⟩ : ∃ n, n = t.ins.length := ⟨_, rfl⟩
  obtain ⟨n2, hn2⟩ : ∃ n, n = t.outs.length := ⟨_, rfl⟩
  obtain ⟨ver, hv⟩ : ∃ n, n = t.ver := ⟨_, rfl⟩
  obtain ⟨lock, hlk⟩ : ∃ n, n = t.lock := ⟨_, rfl⟩
  have K47 : Hid (∀ wq, Below w.heap.size w wq → Calls Try.prog 67 #[.agg #[.int .u32 (ver : Int), .slice A1 n1 c1, .slice A2 n2 c2, .int .u32 (lock : Int)]] wq (IntPost 0 wq)) := fun wq hq => by
    have := check_any t _ _ wq ((h'.keep hq (Nat.le_refl _)).up hq.size)
    rw [hc] at this
    unfold txV at this
    rw [← hv, ← hlk, ← hn1, ← hn2] at this
    exact this
  obtain ⟨X, hX⟩ : ∃ X, X = layB t full := ⟨_, rfl⟩
  have K49 : Hid (∀ wq, Below w.heap.size w wq → Calls Try.prog 68 #[.agg #[.int .u32 (ver : Int), .slice A1 n1 c1, .slice A2 n2 c2, .int .u32 (lock : Int)], .bool full] wq (LaidPost X wq)) := fun wq hq => by
    have := written_any t _ _ full wq ((h'.keep hq (Nat.le_refl _)).up hq.size) hc
    unfold txV at this
    rw [← hv, ← hlk, ← hn1, ← hn2, ← hX] at this
    exact this
  have HB : Hid (Below w.heap.size w (w.alloc (.cells #[.int .u32 (ver : Int), .slice A1 n1 c1, .slice A2 n2 c2, .int .u32 (lock : Int)] 60))) := (Below.refl _ _).alloc (Nat.le_refl _) _
  have HLs := Lib.hid hL
  obtain ⟨Ab, cb, rfl, _⟩ := hL
  obtain ⟨lb, hlb⟩ : ∃ l, l = L.length := ⟨_, rfl⟩
  rw [← hlb] at HLs ⊢
  have Hlb := Lib.hid hlb
  rw [← hX] at hlen
  unfold txV
  rw [← hv, ← hlk, ← hn1, ← hn2, ← hX]
  clear h' hc hn1 hn2 hv hlk hX hlb
  go_enter Try.func56, Try.ntmps56
  go_wp2_with (first
    | (go_at_call 67; (with_reducible refine (K47.out _ HB.out).mono ?_); rintro e w2 ⟨rfl, hb2⟩; have HB2 : Hid (Below w.heap.size w w2) := HB.out.trans (hb2.mono HB.out.size); have d0 : w2.cell? ⟨w.heap.size, 0, none⟩ = some (.int .u32 (ver : Int)) := (by rw [hb2.cell (p := ⟨w.heap.size, 0, none⟩) (by simp)]; exact cell_new rfl rfl); have d1 : w2.cell? ⟨w.heap.size, 1, none⟩ = some (.slice A1 n1 c1) := (by rw [hb2.cell (p := ⟨w.heap.size, 1, none⟩) (by simp)]; exact cell_new rfl rfl); have d2 : w2.cell? ⟨w.heap.size, 2, none⟩ = some (.slice A2 n2 c2) := (by rw [hb2.cell (p := ⟨w.heap.size, 2, none⟩) (by simp)]; exact cell_new rfl rfl); have d3 : w2.cell? ⟨w.heap.size, 3, none⟩ = some (.int .u32 (lock : Int)) := (by rw [hb2.cell (p := ⟨w.heap.size, 3, none⟩) (by simp)]; exact cell_new rfl rfl); clear hb2; dsimp only)
    | (go_at_call 68; (with_reducible refine (K49.out _ HB2.out).mono ?_); rintro e w3 ⟨v3, rfl, ho3, hb3⟩; obtain ⟨A3, c3, rfl, _, _⟩ := slice_form ho3; have HB3 : Hid (Below w.heap.size w w3) := HB2.out.trans (hb3.mono HB2.out.size); have HO3 := Lib.hid ho3; clear hb3 ho3; dsimp only)
    | (go_at_call 54; (with_reducible refine (concat_any [L, X] _ _ (two_ws (Blk.new w3 22 #[.slice Ab lb cb, .slice A3 X.length c3]) (by simp) ((HLs.out.keep (HB3.out.alloc HB3.out.size _) (Nat.le_refl _)).up (Nat.le_trans HB3.out.size (by simp))) ((HO3.out.alloc _).sl (Nat.le_refl _))) (by simp) (by intro M hM; simp at hM; rcases hM with rfl | rfl <;> omega)).mono ?_); rintro e w4 ⟨v4, rfl, ho4, hb4⟩; obtain ⟨A4, c4, rfl, _, _⟩ := slice_form ho4; have HO4 := Lib.hid ho4; have HB4 : Hid (Below w.heap.size w w4) := (HB3.out.alloc HB3.out.size _).trans (hb4.mono (Nat.le_trans HB3.out.size (by simp))); clear ho4 hb4; dsimp only))
  go_ret2
  have e : ([L, X] : List (List (BitVec 8))).flatten = L ++ X := by simp
  have hO := HO4.out
  have hBs := HB3.out.size
  rw [e] at hO
  exact ⟨A4, c4, by rw [List.length_append]; rfl, hO.base (by simp; omega), HB4.out⟩
set_option maxHeartbeats 4000000 in
theorem put_no (t : TTx) (i o b : Value) (full : Bool) (w : World) (h : TxOk w w.heap.size t i o) (hc : chk t ≠ 0) :
    Calls Try.prog 56 #[b, txV t i o, .bool full] w (NonePost (chk t) w) := by
  have h' := h
  obtain ⟨⟨A1, c1, rfl, _, _, _⟩, ⟨A2, c2, rfl, _, _, _⟩, _, _⟩ := h
  obtain ⟨n1, hn1⟩ : ∃ n, n = t.ins.length := ⟨_, rfl⟩
  obtain ⟨n2, hn2⟩ : ∃ n, n = t.outs.length := ⟨_, rfl⟩
  obtain ⟨ver, hv⟩ : ∃ n, n = t.ver := ⟨_, rfl⟩
  obtain ⟨lock, hlk⟩ : ∃ n, n = t.lock := ⟨_, rfl⟩
  obtain ⟨c, hcc⟩ : ∃ c, c = chk t := ⟨_, rfl⟩
  have K47 : Hid (∀ wq, Below w.heap.size w wq → Calls Try.prog 67 #[.agg #[.int .u32 (ver : Int), .slice A1 n1 c1, .slice A2 n2 c2, .int .u32 (lock : Int)]] wq (IntPost c wq)) := fun wq hq => by
    have := check_any t _ _ wq ((h'.keep hq (Nat.le_refl _)).up hq.size)
    rw [← hcc] at this
    unfold txV at this
    rw [← hv, ← hlk, ← hn1, ← hn2] at this
    exact this
  have HB : Hid (Below w.heap.size w (w.alloc (.cells #[.int .u32 (ver : Int), .slice A1 n1 c1, .slice A2 n2 c2, .int .u32 (lock : Int)] 60))) := (Below.refl _ _).alloc (Nat.le_refl _) _
  have hne : (c != 0) = true := by rw [hcc]; simpa using hc
  unfold txV
  rw [← hv, ← hlk, ← hn1, ← hn2, ← hcc]
  clear h' hc hn1 hn2 hv hlk hcc
  go_enter Try.func56, Try.ntmps56
  go_wp2_with (go_at_call 67; (with_reducible refine (K47.out _ HB.out).mono ?_); rintro e w2 ⟨rfl, hb2⟩; dsimp only)
  go_ret2
  exact ⟨rfl, HB.out.trans (hb2.mono HB.out.size)⟩
set_option maxHeartbeats 4000000 in
theorem Put_ok (t : TTx) (i o b : Value) (L : List (BitVec 8)) (w : World) (h : TxOk w w.heap.size t i o) (hL : Sl w w.heap.size b L) (hl : L.length ≤ 100000) (hc : chk t = 0) :
    Calls Try.prog 30 #[b, txV t i o] w (GavePost (L ++ layB t (witd t)) w) := by
  have h' := h
  obtain ⟨⟨A1, c1, rfl, _, _, _⟩, ⟨A2, c2, rfl, _, _, _⟩, _, _⟩ := h
  obtain ⟨n1, hn1⟩ : ∃ n, n = t.ins.length := ⟨_, rfl⟩
  obtain ⟨n2, hn2⟩ : ∃ n, n = t.outs.length := ⟨_, rfl⟩
  obtain ⟨ver, hv⟩ : ∃ n, n = t.ver := ⟨_, rfl⟩
  obtain ⟨lock, hlk⟩ : ∃ n, n = t.lock := ⟨_, rfl⟩
  obtain ⟨f, hf⟩ : ∃ f, f = witd t := ⟨_, rfl⟩
  have K35 : Hid (∀ wq, Below w.heap.size w wq → Calls Try.prog 57 #[.agg #[.int .u32 (ver : Int), .slice A1 n1 c1, .slice A2 n2 c2, .int .u32 (lock : Int)]] wq (BoolPost f wq)) := fun wq hq => by
    have := witnessed_any t _ _ wq ((h'.keep hq (Nat.le_refl _)).up hq.size)
    unfold txV at this
    rw [← hv, ← hlk, ← hn1, ← hn2, ← hf] at this
    exact this
  obtain ⟨X, hX⟩ : ∃ X, X = L ++ layB t (witd t) := ⟨_, rfl⟩
  have K34 : Hid (∀ wq, Below w.heap.size w wq → Calls Try.prog 56 #[b, .agg #[.int .u32 (ver : Int), .slice A1 n1 c1, .slice A2 n2 c2, .int .u32 (lock : Int)], .bool f] wq (GavePost X wq)) := fun wq hq => by
    have := put_ok t _ _ b L (witd t) wq ((h'.keep hq (Nat.le_refl _)).up hq.size) ((hL.keep hq (Nat.le_refl _)).up hq.size) hl hc
    unfold txV at this
    rw [← hv, ← hlk, ← hn1, ← hn2, ← hX, ← hf] at this
    exact this
  have HB : Hid (Below w.heap.size w (w.alloc (.cells #[.int .u32 (ver : Int), .slice A1 n1 c1, .slice A2 n2 c2, .int .u32 (lock : Int)] 60)).drew) := ((Below.refl w.heap.size w).alloc (Nat.le_refl _) _).drew
  have E0 : Hid (∀ wq, SB (w.alloc (.cells #[.int .u32 (ver : Int), .slice A1 n1 c1, .slice A2 n2 c2, .int .u32 (lock : Int)] 60)).drew wq → wq.cell? ⟨w.heap.size, 0, none⟩ = some (.int .u32 (ver : Int)) ∧ wq.cell? ⟨w.heap.size, 1, none⟩ = some (.slice A1 n1 c1) ∧ wq.cell? ⟨w.heap.size, 2, none⟩ = some (.slice A2 n2 c2) ∧ wq.cell? ⟨w.heap.size, 3, none⟩ = some (.int .u32 (lock : Int))) := fun wq hq =>
    ⟨hq.cell (cell_new (w := w) rfl rfl), hq.cell (cell_new (w := w) rfl rfl), hq.cell (cell_new (w := w) rfl rfl), hq.cell (cell_new (w := w) rfl rfl)⟩
  unfold txV
  rw [← hv, ← hlk, ← hn1, ← hn2, ← hX]
  clear h' hn1 hn2 hv hlk hf hX hc hL
  go_enter Try.func30, Try.ntmps30
  go_upto_region 1 with fail
  generalize hWd : (w.alloc (.cells #[.int .u32 (ver : Int), .slice A1 n1 c1, .slice A2 n2 c2, .int .u32 (lock : Int)] 60)).drew = Wd
  rw [hWd] at HB E0
  refine wp_region_but (z := 999) (SB Wd) (by kernel_rfl) ?_
  rw [hWd]
  have hS : SB Wd Wd := SB.refl Wd
  clear hWd
  refine AnyBut.takeE (i := 0) (v := ?_) rfl (by kernel_rfl) (by kernel_rfl) (by kernel_rfl) (by kernel_rfl) (fun _ _ _ h => h) (Or.inl ⟨by rfl, ?_⟩) hS ?_
  rotate_left
  · (intro wq hq; go_simp; try with_reducible rfl)
  try simp only [Act.put, List.setIfInBounds_toArray, List.set_cons_zero, List.set_cons_succ, List.getElem_toArray, List.getElem_cons_zero, List.getElem_cons_succ]
  refine AnyBut.takeE (i := 1) (v := .agg #[.int .u32 (ver : Int), .slice A1 n1 c1, .slice A2 n2 c2, .int .u32 (lock : Int)]) rfl (by kernel_rfl) (by kernel_rfl) (by kernel_rfl) (by kernel_rfl) (fun _ _ _ h => h) (Or.inl ⟨by rfl, ?_⟩) hS ?_
  · intro wq hq
    obtain ⟨dq0, dq1, dq2, dq3⟩ := E0.out wq hq
    go_simp
  try simp only [Act.put, List.setIfInBounds_toArray, List.set_cons_zero, List.set_cons_succ, List.getElem_toArray, List.getElem_cons_zero, List.getElem_cons_succ]
  refine AnyBut.takeE (i := 2) (v := .agg #[.int .u32 (ver : Int), .slice A1 n1 c1, .slice A2 n2 c2, .int .u32 (lock : Int)]) rfl (by kernel_rfl) (by kernel_rfl) (by kernel_rfl) (by kernel_rfl) (fun _ _ _ h => h) (Or.inl ⟨by rfl, ?_⟩) hS ?_
  · intro wq hq
    obtain ⟨dq0, dq1, dq2, dq3⟩ := E0.out wq hq
    go_simp
  try simp only [Act.put, List.setIfInBounds_toArray, List.set_cons_zero, List.set_cons_succ, List.getElem_toArray, List.getElem_cons_zero, List.getElem_cons_succ]
  refine AnyBut.gone (i := 3) (by kernel_rfl) rfl (by rfl) (fun K hK => ?_)
  go_simp
  (with_reducible refine (K35.out _ HB.out).mono ?_)
  rintro e w3 ⟨rfl, hb3⟩
  have hS : SB Wd w3 := SB.next hS hb3
  have HB3 : Hid (Below w.heap.size w w3) := HB.out.trans (hb3.mono HB.out.size)
  clear hb3
  dsimp only
  refine hK _ _ (fun _ => hS) ?_
  clear hK K
  try simp only [Act.put, List.setIfInBounds_toArray, List.set_cons_zero, List.set_cons_succ, List.getElem_toArray, List.getElem_cons_zero, List.getElem_cons_succ]
  refine AnyBut.gone (i := 4) (by kernel_rfl) rfl (by rfl) (fun K hK => ?_)
  go_simp
  (with_reducible refine (K34.out _ HB3.out).mono ?_)
  rintro e w4 ⟨A4, c4, rfl, ho4, hb4⟩
  have hS : SB Wd w4 := SB.next hS hb4
  have HB4 : Hid (Below w.heap.size w w4) := HB3.out.trans (hb4.mono HB3.out.size)
  have HO4 := Lib.hid ho4
  clear ho4 hb4
  dsimp only
  refine hK _ _ (fun _ => hS) ?_
  clear hK K
  try simp only [Act.put, List.setIfInBounds_toArray, List.set_cons_zero, List.set_cons_succ, List.getElem_toArray, List.getElem_cons_zero, List.getElem_cons_succ]
  refine AnyBut.takeE (i := 5) (v := ?_) rfl (by kernel_rfl) (by kernel_rfl) (by kernel_rfl) (by kernel_rfl) (fun _ _ _ h => h) (Or.inl ⟨by rfl, ?_⟩) hS ?_
  rotate_left
  · (intro wq hq; go_simp; try with_reducible rfl)
  try simp only [Act.put, List.setIfInBounds_toArray, List.set_cons_zero, List.set_cons_succ, List.getElem_toArray, List.getElem_cons_zero, List.getElem_cons_succ]
  refine AnyBut.takeE (i := 6) (v := ?_) rfl (by kernel_rfl) (by kernel_rfl) (by kernel_rfl) (by kernel_rfl) (fun _ _ _ h => h) (Or.inl ⟨by rfl, ?_⟩) hS ?_
  rotate_left
  · (intro wq hq; go_simp; try with_reducible rfl)
  try simp only [Act.put, List.setIfInBounds_toArray, List.set_cons_zero, List.set_cons_succ, List.getElem_toArray, List.getElem_cons_zero, List.getElem_cons_succ]
  refine AnyBut.takeE (i := 7) (v := ?_) rfl (by kernel_rfl) (by kernel_rfl) (by kernel_rfl) (by kernel_rfl) (fun _ _ _ h => h) (Or.inl ⟨by rfl, ?_⟩) hS ?_
  rotate_left
  · (intro wq hq; go_simp; try with_reducible rfl)
  try simp only [Act.put, List.setIfInBounds_toArray, List.set_cons_zero, List.set_cons_succ, List.getElem_toArray, List.getElem_cons_zero, List.getElem_cons_succ]
  refine AnyBut.gone (i := 8) (by kernel_rfl) rfl (by rfl) (fun K hK => ?_)
  go_simp
  refine hK _ _ (fun _ => hS) ?_
  clear hK K
  refine AnyBut.done (by kernel_rfl) ?_ _
  dsimp only [Exit.then]
  have hBs := HB3.out.size
  clear hS
  go_wp2_with fail
  go_ret2
  exact ⟨A4, c4, rfl, HO4.out.base hBs, HB4.out⟩
set_option maxHeartbeats 4000000 in
theorem Put_no (t : TTx) (i o b : Value)  (w : World) (h : TxOk w w.heap.size t i o) (hc : chk t ≠ 0) :
    Calls Try.prog 30 #[b, txV t i o] w (NonePost (chk t) w) := by
  have h' := h
  obtain ⟨⟨A1, c1, rfl, _, _, _⟩, ⟨A2, c2, rfl, _, _, _⟩, _, _⟩ := h
  obtain ⟨n1, hn1⟩ : ∃ n, n = t.ins.length := ⟨_, rfl⟩
  obtain ⟨n2, hn2⟩ : ∃ n, n = t.outs.length := ⟨_, rfl⟩
  obtain ⟨ver, hv⟩ : ∃ n, n = t.ver := ⟨_, rfl⟩
  obtain ⟨lock, hlk⟩ : ∃ n, n = t.lock := ⟨_, rfl⟩
  obtain ⟨f, hf⟩ : ∃ f, f = witd t := ⟨_, rfl⟩
  have K35 : Hid (∀ wq, Below w.heap.size w wq → Calls Try.prog 57 #[.agg #[.int .u32 (ver : Int), .slice A1 n1 c1, .slice A2 n2 c2, .int .u32 (lock : Int)]] wq (BoolPost f wq)) := fun wq hq => by
    have := witnessed_any t _ _ wq ((h'.keep hq (Nat.le_refl _)).up hq.size)
    unfold txV at this
    rw [← hv, ← hlk, ← hn1, ← hn2, ← hf] at this
    exact this
  obtain ⟨c, hcc⟩ : ∃ c, c = chk t := ⟨_, rfl⟩
  have K34 : Hid (∀ wq, Below w.heap.size w wq → Calls Try.prog 56 #[b, .agg #[.int .u32 (ver : Int), .slice A1 n1 c1, .slice A2 n2 c2, .int .u32 (lock : Int)], .bool f] wq (NonePost c wq)) := fun wq hq => by
    have := put_no t _ _ b (witd t) wq ((h'.keep hq (Nat.le_refl _)).up hq.size) hc
    unfold txV at this
    rw [← hv, ← hlk, ← hn1, ← hn2, ← hcc, ← hf] at this
    exact this
  have HB : Hid (Below w.heap.size w (w.alloc (.cells #[.int .u32 (ver : Int), .slice A1 n1 c1, .slice A2 n2 c2, .int .u32 (lock : Int)] 60)).drew) := ((Below.refl w.heap.size w).alloc (Nat.le_refl _) _).drew
  have E0 : Hid (∀ wq, SB (w.alloc (.cells #[.int .u32 (ver : Int), .slice A1 n1 c1, .slice A2 n2 c2, .int .u32 (lock : Int)] 60)).drew wq → wq.cell? ⟨w.heap.size, 0, none⟩ = some (.int .u32 (ver : Int)) ∧ wq.cell? ⟨w.heap.size, 1, none⟩ = some (.slice A1 n1 c1) ∧ wq.cell? ⟨w.heap.size, 2, none⟩ = some (.slice A2 n2 c2) ∧ wq.cell? ⟨w.heap.size, 3, none⟩ = some (.int .u32 (lock : Int))) := fun wq hq =>
    ⟨hq.cell (cell_new (w := w) rfl rfl), hq.cell (cell_new (w := w) rfl rfl), hq.cell (cell_new (w := w) rfl rfl), hq.cell (cell_new (w := w) rfl rfl)⟩
  unfold txV
  rw [← hv, ← hlk, ← hn1, ← hn2, ← hcc]
  clear h' hn1 hn2 hv hlk hf hcc hc
  go_enter Try.func30, Try.ntmps30
  go_upto_region 1 with fail
  generalize hWd : (w.alloc (.cells #[.int .u32 (ver : Int), .slice A1 n1 c1, .slice A2 n2 c2, .int .u32 (lock : Int)] 60)).drew = Wd
  rw [hWd] at HB E0
  refine wp_region_but (z := 999) (SB Wd) (by kernel_rfl) ?_
  rw [hWd]
  have hS : SB Wd Wd := SB.refl Wd
  clear hWd
  refine AnyBut.takeE (i := 0) (v := ?_) rfl (by kernel_rfl) (by kernel_rfl) (by kernel_rfl) (by kernel_rfl) (fun _ _ _ h => h) (Or.inl ⟨by rfl, ?_⟩) hS ?_
  rotate_left
  · (intro wq hq; go_simp; try with_reducible rfl)
  try simp only [Act.put, List.setIfInBounds_toArray, List.set_cons_zero, List.set_cons_succ, List.getElem_toArray, List.getElem_cons_zero, List.getElem_cons_succ]
  refine AnyBut.takeE (i := 1) (v := .agg #[.int .u32 (ver : Int), .slice A1 n1 c1, .slice A2 n2 c2, .int .u32 (lock : Int)]) rfl (by kernel_rfl) (by kernel_rfl) (by kernel_rfl) (by kernel_rfl) (fun _ _ _ h => h) (Or.inl ⟨by rfl, ?_⟩) hS ?_
  · intro wq hq
    obtain ⟨dq0, dq1, dq2, dq3⟩ := E0.out wq hq
    go_simp
  try simp only [Act.put, List.setIfInBounds_toArray, List.set_cons_zero, List.set_cons_succ, List.getElem_toArray, List.getElem_cons_zero, List.getElem_cons_succ]
  refine AnyBut.takeE (i := 2) (v := .agg #[.int .u32 (ver : Int), .slice A1 n1 c1, .slice A2 n2 c2, .int .u32 (lock : Int)]) rfl (by kernel_rfl) (by kernel_rfl) (by kernel_rfl) (by kernel_rfl) (fun _ _ _ h => h) (Or.inl ⟨by rfl, ?_⟩) hS ?_
  · intro wq hq
    obtain ⟨dq0, dq1, dq2, dq3⟩ := E0.out wq hq
    go_simp
  try simp only [Act.put, List.setIfInBounds_toArray, List.set_cons_zero, List.set_cons_succ, List.getElem_toArray, List.getElem_cons_zero, List.getElem_cons_succ]
  refine AnyBut.gone (i := 3) (by kernel_rfl) rfl (by rfl) (fun K hK => ?_)
  go_simp
  (with_reducible refine (K35.out _ HB.out).mono ?_)
  rintro e w3 ⟨rfl, hb3⟩
  have hS : SB Wd w3 := SB.next hS hb3
  have HB3 : Hid (Below w.heap.size w w3) := HB.out.trans (hb3.mono HB.out.size)
  clear hb3
  dsimp only
  refine hK _ _ (fun _ => hS) ?_
  clear hK K
  try simp only [Act.put, List.setIfInBounds_toArray, List.set_cons_zero, List.set_cons_succ, List.getElem_toArray, List.getElem_cons_zero, List.getElem_cons_succ]
  refine AnyBut.gone (i := 4) (by kernel_rfl) rfl (by rfl) (fun K hK => ?_)
  go_simp
  (with_reducible refine (K34.out _ HB3.out).mono ?_)
  rintro e w4 ⟨rfl, hb4⟩
  have hS : SB Wd w4 := SB.next hS hb4
  have HB4 : Hid (Below w.heap.size w w4) := HB3.out.trans (hb4.mono HB3.out.size)
  clear hb4
  dsimp only
  refine hK _ _ (fun _ => hS) ?_
  clear hK K
  try simp only [Act.put, List.setIfInBounds_toArray, List.set_cons_zero, List.set_cons_succ, List.getElem_toArray, List.getElem_cons_zero, List.getElem_cons_succ]
  refine AnyBut.takeE (i := 5) (v := ?_) rfl (by kernel_rfl) (by kernel_rfl) (by kernel_rfl) (by kernel_rfl) (fun _ _ _ h => h) (Or.inl ⟨by rfl, ?_⟩) hS ?_
  rotate_left
  · (intro wq hq; go_simp; try with_reducible rfl)
  try simp only [Act.put, List.setIfInBounds_toArray, List.set_cons_zero, List.set_cons_succ, List.getElem_toArray, List.getElem_cons_zero, List.getElem_cons_succ]
  refine AnyBut.takeE (i := 6) (v := ?_) rfl (by kernel_rfl) (by kernel_rfl) (by kernel_rfl) (by kernel_rfl) (fun _ _ _ h => h) (Or.inl ⟨by rfl, ?_⟩) hS ?_
  rotate_left
  · (intro wq hq; go_simp; try with_reducible rfl)
  try simp only [Act.put, List.setIfInBounds_toArray, List.set_cons_zero, List.set_cons_succ, List.getElem_toArray, List.getElem_cons_zero, List.getElem_cons_succ]
  refine AnyBut.takeE (i := 7) (v := ?_) rfl (by kernel_rfl) (by kernel_rfl) (by kernel_rfl) (by kernel_rfl) (fun _ _ _ h => h) (Or.inl ⟨by rfl, ?_⟩) hS ?_
  rotate_left
  · (intro wq hq; go_simp; try with_reducible rfl)
  try simp only [Act.put, List.setIfInBounds_toArray, List.set_cons_zero, List.set_cons_succ, List.getElem_toArray, List.getElem_cons_zero, List.getElem_cons_succ]
  refine AnyBut.gone (i := 8) (by kernel_rfl) rfl (by rfl) (fun K hK => ?_)
  go_simp
  refine hK _ _ (fun _ => hS) ?_
  clear hK K
  refine AnyBut.done (by kernel_rfl) ?_ _
  dsimp only [Exit.then]
  clear hS
  go_wp2_with fail
  go_ret2
  exact ⟨rfl, HB4.out⟩
open Go.RowKit
set_option linter.unusedVariables false
set_option linter.unusedSimpArgs false
set_option maxRecDepth 100000
/-- Nothing has changed but blocks p and q, and what is new. -/
structure Fr (w w' : World) (p q : Option Nat) : Prop where
  os : w'.os = w.os
  tape : w'.tape = w.tape
  output : w'.output = w.output
  size : w.heap.size ≤ w'.heap.size
  block : ∀ k, k < w.heap.size → some k ≠ p → some k ≠ q → w'.heap[k]? = w.heap[k]?
theorem Fr.of_grown {w w' : World} {p : Option Nat} (h : w.grownBy w' p) (q : Option Nat) : Fr w w' p q := ⟨h.os, h.tape, h.output, h.size, fun k hk hp _ => h.block k hk hp⟩
theorem Fr.refl (w : World) (p q : Option Nat) : Fr w w p q := ⟨rfl, rfl, rfl, Nat.le_refl _, fun _ _ _ _ => rfl⟩
theorem Fr.trans {w w1 w2 : World} {p q : Option Nat} (h : Fr w w1 p q) (h2 : Fr w1 w2 p q) : Fr w w2 p q :=
  ⟨h2.os.trans h.os, h2.tape.trans h.tape, h2.output.trans h.output, Nat.le_trans h.size h2.size, fun k hk hp hq => (h2.block k (Nat.lt_of_lt_of_le hk h.size) hp hq).trans (h.block k hk hp hq)⟩
theorem Fr.store (w : World) (p : Option Nat) (b o : Nat) (v : Value) : Fr w (w.setCell ⟨b, o, none⟩ v) p (some b) :=
  ⟨rfl, rfl, rfl, by simp [World.setCell], fun k hk _ hq => Below.heap_setCell _ _ _ _ fun e => hq (by rw [e])⟩
/-- Behind a step that changes p and a row that is new to w0, w0 has grown by p alone. -/
theorem Fr.grown {w0 w w' : World} {p : Option Nat} {b : Nat} (h0 : w0.grownBy w p) (h : Fr w w' p (some b)) (hb : w0.heap.size ≤ b) : w0.grownBy w' p :=
  ⟨h.os.trans h0.os, h.tape.trans h0.tape, h.output.trans h0.output, Nat.le_trans h0.size h.size, fun k hk hp => (h.block k (Nat.lt_of_lt_of_le hk h0.size) hp (by intro e; injection e; omega)).trans (h0.block k hk hp)⟩
theorem Fr.outer {w0 w w' : World} {p q : Option Nat} {b : Nat} (h0 : Fr w0 w p q) (h : Fr w w' p (some b)) (hb : w0.heap.size ≤ b) : Fr w0 w' p q :=
  ⟨h.os.trans h0.os, h.tape.trans h0.tape, h.output.trans h0.output, Nat.le_trans h0.size h.size, fun k hk hp hq => (h.block k (Nat.lt_of_lt_of_le hk h0.size) hp (by intro e; injection e; omega)).trans (h0.block k hk hp hq)⟩
theorem Blk.fr {w w' : World} {b : Nat} {T : TypeId} {vs : List Value} {p q : Option Nat} (h : Blk w b T vs) (hf : Fr w w' p q) (hp : some b ≠ p) (hq : some b ≠ q) : Blk w' b T vs := by
  have hl := h.lt
  unfold Blk at *; rw [hf.block b hl hp hq]; exact h
theorem IsR.box {w : World} {B : Nat} {p : Option Nat} {s : Option (List (BitVec 8))} (h : IsR w B p s) {g : Nat} (hg : p = some g) : ∃ vs, Blk w g 78 vs := by
  cases s with
  | none => exact ⟨_, (h g hg).2⟩
  | some L =>
    obtain ⟨g', A, cap, e, _, hb, _⟩ := h
    rw [hg] at e
    cases e
    exact ⟨_, hb⟩
theorem Blk.apart {w : World} {b b' : Nat} {T T' : TypeId} {vs vs' : List Value} (h : Blk w b T vs) (h' : Blk w b' T' vs') (hT : T ≠ T') : b ≠ b' := fun e => by
  subst e
  unfold Blk at h h'
  rw [h] at h'
  injection h' with h'
  injection h' with _ h'
  exact hT h'
theorem IsR.ne {w : World} {B b : Nat} {p : Option Nat} {s : Option (List (BitVec 8))} {T : TypeId} {vs : List Value} (h : IsR w B p s) (hb : Blk w b T vs) (hT : T ≠ 78) : some b ≠ p := fun e => by
  obtain ⟨us, hu⟩ := h.box e.symm
  exact hb.apart hu hT rfl
theorem IsR.store {w : World} {B b : Nat} {p : Option Nat} {s : Option (List (BitVec 8))} {T : TypeId} {vs : List Value} (h : IsR w B p s) (hb : Blk w b T vs) (hT : T ≠ 78) (hT5 : T ≠ 5) (o : Nat) (v : Value) : IsR (w.setCell ⟨b, o, none⟩ v) B p s := by
  have hn := h.ne hb hT
  cases s with
  | none => exact fun g hg => ⟨(h g hg).1, (h g hg).2.other (fun e => hn (by rw [hg]; exact congrArg some e.symm)) v⟩
  | some L =>
    obtain ⟨g, A, cap, e, hg, hk, ho, r⟩ := h
    exact ⟨g, A, cap, e, hg, hk.other (fun e' => hn (by rw [e]; exact congrArg some e'.symm)) v, ho.store hb hT5 o v, r⟩
/-- The value v is a slice of bytes of the program's own, that reads as L. -/
def SlN (w : World) (v : Value) (L : List (BitVec 8)) : Prop :=
  ∃ A cap, v = .slice A L.length cap ∧ Own5 w w.heap.size A L ∧ L.length ≤ cap ∧ cap ≤ 9223372036854775807 ∧ (A = none → cap = 0)
theorem SlN.nil (w : World) : SlN w (.slice none 0 0) [] := ⟨none, 0, rfl, fun h => by simp at h, Nat.le_refl _, by omega, fun _ => rfl⟩
theorem SlN.sl {w : World} {v : Value} {L : List (BitVec 8)} (h : SlN w v L) : Sl w w.heap.size v L := by
  obtain ⟨A, cap, e, ho, r⟩ := h
  exact ⟨A, cap, e, ho.rd, r⟩
theorem Own5.size {w w' : World} {B B' : Nat} {A : Option Addr} {L : List (BitVec 8)} (h : Own5 w B A L) (hB : B ≤ B') (hk : ∀ b cur, b < B → w.heap[b]? = some (.cells cur 5 (0, 0)) → w'.heap[b]? = w.heap[b]?) : Own5 w' B' A L := fun hp => by
  obtain ⟨b, o, cur, e, hb, hh, hc⟩ := h hp
  exact ⟨b, o, cur, e, by omega, by rw [hk b cur hb hh]; exact hh, hc⟩
theorem SlN.fr {w w' : World} {v : Value} {L : List (BitVec 8)} {B b : Nat} {p : Option Nat} {s : Option (List (BitVec 8))} {T : TypeId} {vs : List Value} (h : SlN w v L) (hR : IsR w B p s) (hb : Blk w b T vs) (hT : T ≠ 5) (hf : Fr w w' p (some b)) : SlN w' v L := by
  obtain ⟨A, cap, e, ho, r⟩ := h
  refine ⟨A, cap, e, ho.size hf.size fun k cur hk hh => hf.block k hk ?_ ?_, r⟩
  · intro e'
    obtain ⟨us, hu⟩ := hR.box e'.symm
    unfold Blk at hu
    rw [hh] at hu
    injection hu with hu
    injection hu with _ hu
    exact absurd hu (by decide)
  · intro e'
    injection e' with e'
    subst e'
    unfold Blk at hb
    rw [hh] at hb
    injection hb with hb
    injection hb with _ hb
    exact hT hb.symm
theorem SlN.of_ob {w : World} {B : Nat} {v : Value} {L : List (BitVec 8)} (h : OB w B v L) : SlN w v L := h.own5
/-- Behind a reading of one item: its bytes stand in the row, the code is the text's. -/
def ItemPost (s : Option (List (BitVec 8))) (B rb j : Nat) (p : Option Nat) (xs : List Value) (w : World) (e : Ending) (w' : World) : Prop :=
  ∃ v, e = .returned (.int .i64 (tE s 128)) ∧ SlN w' v (tL s 128) ∧ Blk w' rb 22 (xs.set j v) ∧ IsR w' B p (tS s 128) ∧ Fr w w' p (some rb)
theorem rdItem_any (p : Option Nat) (s : Option (List (BitVec 8))) (B rb j cb : Nat) (xs : List Value) (w : World) (h : IsR w B p s) (hB : B ≤ w.heap.size) (hl : Short s 100000000) (hc : Blk w cb 42 [ptr p]) (hr : Blk w rb 22 xs) (hj : j < xs.length) :
    Calls Try.prog 95 #[.pointer (some ⟨rb, j, none⟩), .pointer (some ⟨cb, 0, none⟩)] w (ItemPost s B rb j p xs w) := by
  have c0 := hc.cell (j := 0) (v := ptr p) rfl
  have K := Lib.hid (text_any p s 128 B w h hB hl (by omega))
  have e128 : (128 : Int).toNat = 128 := rfl
  rw [e128] at K
  have HN := Lib.hid (h.ne hr (by decide))
  have HR := Lib.hid hr
  obtain ⟨y, hy⟩ : ∃ y, xs[j]? = some y := ⟨_, List.getElem?_eq_getElem hj⟩
  have HJ := Lib.hid hy
  obtain ⟨P, hP⟩ : ∃ P, P = ptr p := ⟨_, rfl⟩
  obtain ⟨c, hcE⟩ : ∃ c, c = tE s 128 := ⟨_, rfl⟩
  obtain ⟨X, hX⟩ : ∃ X, X = tL s 128 := ⟨_, rfl⟩
  unfold ItemPost
  rw [← hP] at c0 K
  rw [← hcE, ← hX] at K ⊢
  clear h hB hl hc hr hj hP hcE hX e128 hy
  go_enter Try.func95, Try.ntmps95
  go_wp2_with (go_at_call 91; (with_reducible refine K.out.mono ?_); rintro e w1 ⟨v, rfl, ho, hi, hg⟩; obtain ⟨A, cap, rfl, hS⟩ := ho.own5; have hb1 := HR.out.grown hg HN.out; have d0 := hb1.cell HJ.out; have f0 := hb1.free j; have HS := Lib.hid hS; have HB1 := Lib.hid hb1; have HI := Lib.hid hi; have HG := Lib.hid hg; clear ho hi hg hS hb1 K c0; dsimp only)
  go_ret
  have fs := Fr.store w1 p rb j (.slice A X.length cap)
  have hsn : SlN w1 (.slice A X.length cap) X := ⟨A, cap, rfl, HS.out⟩
  exact ⟨_, rfl, hsn.fr HI.out HB1.out (by decide) fs, HB1.out.set j _, HI.out.store HB1.out (by decide) (by decide) j _, (Fr.of_grown HG.out _).trans fs⟩
open Go.RowKit
set_option linter.unusedVariables false
set_option linter.unusedSimpArgs false
set_option maxRecDepth 100000
/-- A number as the program takes it for a value. -/
def i64w (n : Nat) : Int := IntKind.i64.wrap (n : Int)
def RdOutPost (s : Option (List (BitVec 8))) (B rb o : Nat) (p : Option Nat) (xs : List Value) (w : World) (e : Ending) (w' : World) : Prop :=
  ∃ v, e = .returned (.int .i64 (tE (numS s 8) 128)) ∧ SlN w' v (tL (numS s 8) 128) ∧ Blk w' rb 71 ((xs.set o (.int .i64 (i64w (numV s 8)))).set (o + 1) v) ∧ IsR w' B p (tS (numS s 8) 128) ∧ Fr w w' p (some rb)
theorem rdOut_any (p : Option Nat) (s : Option (List (BitVec 8))) (B rb o cb : Nat) (xs : List Value) (w : World) (h : IsR w B p s) (hB : B ≤ w.heap.size) (hl : Short s 100000000) (hc : Blk w cb 42 [ptr p]) (hr : Blk w rb 71 xs) (hj : o + 1 < xs.length) :
    Calls Try.prog 92 #[.pointer (some ⟨rb, o, none⟩), .pointer (some ⟨cb, 0, none⟩)] w (RdOutPost s B rb o p xs w) := by
  have c0 := hc.cell (j := 0) (v := ptr p) rfl
  have K1 := Lib.hid (num_any p s 8 B w h hB)
  have HN := Lib.hid (h.ne hr (by decide))
  have HNc := Lib.hid (h.ne hc (by decide))
  have HX := Lib.hid (hc.apart hr (by decide))
  have HC := Lib.hid hc
  have HR := Lib.hid hr
  have HB := Lib.hid hB
  have HL := Lib.hid (numS_short hl 8)
  obtain ⟨y, hy⟩ : ∃ y, xs[o]? = some y := ⟨_, List.getElem?_eq_getElem (by omega)⟩
  obtain ⟨z, hz⟩ : ∃ z, xs[o + 1]? = some z := ⟨_, List.getElem?_eq_getElem hj⟩
  obtain ⟨n8, hn8⟩ : ∃ n, n = numV s 8 := ⟨_, rfl⟩
  obtain ⟨s1, hs1⟩ : ∃ s', s' = numS s 8 := ⟨_, rfl⟩
  obtain ⟨i8, hi8⟩ : ∃ n, n = i64w n8 := ⟨_, rfl⟩
  have hi8' : IntKind.i64.wrap (n8 : Int) = i8 := hi8.symm
  have hz1 : (xs.set o (.int .i64 i8))[o + 1]? = some z := by rw [List.getElem?_set_ne (by omega)]; exact hz
  have HY := Lib.hid hy
  have HZ := Lib.hid hz1
  obtain ⟨P, hP⟩ : ∃ P, P = ptr p := ⟨_, rfl⟩
  have hE : Hid (∀ wq, IsR wq B p s1 → B ≤ wq.heap.size → Calls Try.prog 91 #[P, .int .i64 128] wq (TextPost (tL s1 128) (tE s1 128) (tS s1 128) B p wq)) := fun wq hq hBq => by
    rw [hP]; exact text_any p s1 128 B wq hq hBq (by rw [hs1]; exact HL.out) (by omega)
  unfold RdOutPost
  rw [← hs1, ← hn8, ← hi8]
  rw [← hs1, ← hn8] at K1
  rw [← hP] at c0 K1 HC
  obtain ⟨c, hcE⟩ : ∃ c, c = tE s1 128 := ⟨_, rfl⟩
  obtain ⟨X, hX⟩ : ∃ X, X = tL s1 128 := ⟨_, rfl⟩
  rw [← hcE, ← hX] at hE ⊢
  clear h hB hl hc hr hj hP hcE hX hy hz hz1 hn8 hs1 hi8
  go_enter Try.func92, Try.ntmps92
  go_wp2_with (first
    | (go_at_call 91; (with_reducible refine (hE.out _ HI1.out HB1.out).mono ?_); rintro e w2 ⟨v, rfl, ho, hi, hg⟩; obtain ⟨A, cap, rfl, hS⟩ := ho.own5; have hb2 := HR1.out.grown hg HN.out; have d1 := hb2.cell HZ.out; have f1 := hb2.free (o + 1); have HS := Lib.hid hS; have HR2 := Lib.hid hb2; have HI2 := Lib.hid hi; have HG2 := Lib.hid hg; clear ho hi hg hS hb2 hE; dsimp only)
    | (go_at_call 32; (with_reducible refine K1.out.mono ?_); rintro e w1 ⟨rfl, hi, hg⟩; have hb1 := HR.out.grown hg HN.out; have hc1 := HC.out.grown hg HNc.out; have d0 := hb1.cell HY.out; have f0 := hb1.free o; have HIa := Lib.hid hi; have HG := Lib.hid hg; have HR0 := Lib.hid hb1; have HI1 := Lib.hid (hi.store hb1 (by decide) (by decide) o (.int .i64 i8)); have HR1 := Lib.hid (hb1.set o (.int .i64 i8)); have HB1 := Lib.hid (Nat.le_trans (Nat.le_trans HB.out hg.size) (Fr.store w1 p rb o (.int .i64 i8)).size); have c1 := (hc1.other HX.out (a := ⟨rb, o, none⟩) (.int .i64 i8)).cell (j := 0) rfl; clear hi hg hb1 hc1 K1 c0; dsimp only))
  go_ret
  have fs1 := Fr.store w1 p rb o (.int .i64 i8)
  have fs2 := Fr.store w2 p rb (o + 1) (.slice A X.length cap)
  have hsn : SlN w2 (.slice A X.length cap) X := ⟨A, cap, rfl, HS.out⟩
  exact ⟨_, rfl, hsn.fr HI2.out HR2.out (by decide) fs2, HR2.out.set _ _, HI2.out.store HR2.out (by decide) (by decide) _ _, ((Fr.of_grown HG.out _).trans fs1).trans ((Fr.of_grown HG2.out _).trans fs2)⟩
end Go.Proofs.Ytpamepkcbhoiaaa
