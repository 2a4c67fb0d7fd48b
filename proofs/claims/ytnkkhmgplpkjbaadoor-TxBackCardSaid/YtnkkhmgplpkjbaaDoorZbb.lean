/- What the closure that writes a witness, and writtenWitnesses, return. What tx.written returns: the bytes of a transaction. What tx.written returns: the bytes of a transaction. What slices.Grow of nil, and slices.Concat, return. What tx.put and tx.Put return: the bytes of a transaction behind others, or why there are none. What stays when a reader is read from while a row is filled (Fr), slices of bytes that stay (SlN), and what the closure that reads one item of a witness does. What the closure that reads an output does. What the loop over a witness's items leaves behind. What the closure that reads the witness of an input does. What the closure that reads an input does. What the loop that reads the outputs leaves behind. What the loop that reads the inputs leaves behind. What parsedIns returns. What parsedOuts returns. What the loop that reads the witnesses into the inputs leaves behind, and what parseWitnesses returns. What slices.Equal over bytes, sameText, and the document's own same return: whether two byte strings are equal. What the document's own same and the law package's large return. What was read, as a transaction that lies there; what parsed and Parse answer, as plain functions. Plain facts: what Get finds in a form, and what was found is a form. -/
import Derived.Test.YtnkkhmgplpkjbaaDoorZba
import Derived.Outline
import Derived.Lib.AppendStr
import Derived.Lib.AppendZeros
import Derived.Stop.BytesEq
import Derived.Laws.StructEq
namespace Go.Proofs.YtnkkhmgplpkjbaaDoor
open Go.RowKit
set_option linter.unusedVariables false
set_option linter.unusedSimpArgs false
set_option maxRecDepth 100000
theorem wp_calm_any {P : Program} {c : Code} {Q' : Exit → Act → World → Prop} {a : Act} {w : World}
    (h : c.wp P (Exit.then (fun a w => Q' .normal a w) fun _ _ _ => False) a w) : c.wp P Q' a w :=
  Code.wp_mono (fun e a w q => by cases e <;> first | exact q | exact q.elim) h
theorem flat_le {α : Type} (f : α → List (BitVec 8)) (k : Nat) : ∀ (l : List α), (∀ x ∈ l, (f x).length ≤ k) → (l.map f).flatten.length ≤ l.length * k
  | [], _ => by simp
  | x :: l, h => by
    have h1 := h x (List.mem_cons_self ..)
    have h2 := flat_le f k l fun y hy => h y (List.mem_cons_of_mem _ hy)
    simp only [List.map_cons, List.flatten_cons, List.length_append, List.length_cons, Nat.add_mul, Nat.one_mul]
    omega
theorem flat_succ {α : Type} (f : α → List (BitVec 8)) (l : List α) (d : α) (i : Nat) (h : i < l.length) : ((l.take (i + 1)).map f).flatten = ((l.take i).map f).flatten ++ f (l.getD i d) := by
  rw [List.take_succ_eq_append_getElem h, List.map_append, List.flatten_append]
  simp [List.getD, h]
theorem getD_mem {α : Type} (l : List α) (d : α) (i : Nat) (h : i < l.length) : l.getD i d ∈ l := by
  have : l.getD i d = l[i] := by simp [List.getD, h]
  rw [this]; exact List.getElem_mem h
theorem take_sub {α : Type} {l : List α} {i : Nat} {P : α → Prop} (h : ∀ x ∈ l, P x) : ∀ x ∈ l.take i, P x := fun x hx => h x (List.mem_of_mem_take hx)
set_option maxHeartbeats 8000000 in
theorem wWit_any (x : TIn) (s u : Value) (g o B cb : Nat) (v : Value) (w0 w : World) (L : List (BitVec 8)) (hg : g < B) (hr : w0.rangeAt g o (inV x s u)) (hok : InOk w0 B x s u) (hC : CapV w0 B cb v w L) (hl : L.length ≤ 1000000) (hwl : x.wt.length ≤ 1000) (hwi : ∀ t ∈ x.wt, t.length ≤ 1000) :
    Calls Tryd.prog 98 #[.pointer (some ⟨g, o, none⟩), .pointer (some ⟨cb, 0, none⟩)] w (WrPost w0 B cb (L ++ witB x)) := by
  obtain ⟨hs, hu, h32, hix, hsq⟩ := hok
  obtain ⟨e32, e33, e34, e35⟩ := inV_at (x := x) (s := s) (v := u) h32
  obtain ⟨A2, c2, rfl, _, _, hrow⟩ := hu
  have c35 := hr 35 _ e35
  have HX : Hid (∀ wq, Below B w0 wq → wq.cell? ⟨g, o + 35, none⟩ = some (.slice A2 x.wt.length c2)) := fun wq hq => by rw [hq.cell (p := ⟨g, o + 35, none⟩) hg]; exact c35
  obtain ⟨X, hX⟩ : ∃ X, X = x.wt := ⟨_, rfl⟩
  have eW : witB x = form X.length ++ (X.map txt).flatten := by rw [hX]; rfl
  rw [← hX] at HX hrow hwl hwi
  obtain ⟨n, hn⟩ : ∃ n, n = X.length := ⟨_, rfl⟩
  have HR : Hid (∀ i, i < n → ∃ wb wo Ai ci, A2 = some ⟨wb, wo, none⟩ ∧ wb < B ∧ w0.cell? ⟨wb, wo + i, none⟩ = some (.slice Ai (X.getD i []).length ci) ∧ Rd w0 B Ai (X.getD i []) ∧ (Ai = none → ci = 0)) := fun i hi => by
    obtain ⟨wb, wo, e, hlt, hh⟩ := hrow (by omega)
    obtain ⟨ui, hc, Ai, ci, rfl, hrd, _, _, hcn⟩ := hh i (by omega)
    rw [Nat.mul_one] at hc
    exact ⟨wb, wo, Ai, ci, e, hlt, hc, hrd, hcn⟩
  have Hwi := Lib.hid hwi
  rw [← hn] at HX hwl
  obtain ⟨m1, hm1⟩ : ∃ m, m = (form n).length := ⟨_, rfl⟩
  have hm1l : m1 ≤ 9 := by rw [hm1, form_len]; have := wid_le n; omega
  have K1 := Lib.hid (fun wq => count_w n m1 wq (by omega) hm1.symm)
  obtain ⟨L0, hL0⟩ : ∃ M, M = L ++ witB x := ⟨_, rfl⟩
  rw [← hL0]
  have HL0 : Hid (L0 = L ++ (form n ++ (X.map txt).flatten)) := show L0 = L ++ (form n ++ (X.map txt).flatten) by rw [hL0, eW, hn]
  have Hn := Lib.hid hn
  have Hm1 := Lib.hid hm1
  clear hs hr e32 e33 e34 e35 hrow c35 hX eW hn hm1 hL0 hwi h32
  go_enter Tryd.func98, Tryd.ntmps98
  go_upto_region 1 with fail
  generalize hWd : w.drew = Wd
  have hCd : CapV w0 B cb v Wd L := by rw [← hWd]; exact hC.drew
  have EC : Hid (∀ wq, SB Wd wq → wq.cell? ⟨cb, 0, none⟩ = some v) := fun wq hq => hq.cell (hCd.blk.cell rfl)
  have EX : Hid (∀ wq, SB Wd wq → wq.cell? ⟨g, o + 35, none⟩ = some (.slice A2 n c2)) := fun wq hq => hq.cell (HX.out Wd hCd.bel)
  have HCd := Lib.hid hCd
  clear hCd hC
  refine wp_region_to (z := 7) (SB Wd) (by kernel_rfl) ?_
  rw [hWd]
  have hS : SB Wd Wd := SB.refl Wd
  clear hWd
  refine AnyTo.take (i := 0) (v := v) rfl (by kernel_rfl) (by kernel_rfl) (by kernel_rfl) (by kernel_rfl) (by kernel_rfl) (fun _ _ _ h => h) (Or.inl ⟨by rfl, ?_⟩) hS ?_
  · intro wq hq
    have dq0 := EC.out wq hq
    go_simp
  try simp only [Act.put, List.setIfInBounds_toArray, List.set_cons_zero, List.set_cons_succ, List.getElem_toArray, List.getElem_cons_zero, List.getElem_cons_succ]
  refine AnyTo.take (i := 1) (v := ?_) rfl (by kernel_rfl) (by kernel_rfl) (by kernel_rfl) (by kernel_rfl) (by kernel_rfl) (fun _ _ _ h => h) (Or.inl ⟨by rfl, ?_⟩) hS ?_
  rotate_left
  · (intro wq hq; go_simp; try with_reducible rfl)
  try simp only [Act.put, List.setIfInBounds_toArray, List.set_cons_zero, List.set_cons_succ, List.getElem_toArray, List.getElem_cons_zero, List.getElem_cons_succ]
  refine AnyTo.take (i := 2) (v := ?_) rfl (by kernel_rfl) (by kernel_rfl) (by kernel_rfl) (by kernel_rfl) (by kernel_rfl) (fun _ _ _ h => h) (Or.inl ⟨by rfl, ?_⟩) hS ?_
  rotate_left
  · (intro wq hq; go_simp; try with_reducible rfl)
  try simp only [Act.put, List.setIfInBounds_toArray, List.set_cons_zero, List.set_cons_succ, List.getElem_toArray, List.getElem_cons_zero, List.getElem_cons_succ]
  refine AnyTo.take (i := 3) (v := ?_) rfl (by kernel_rfl) (by kernel_rfl) (by kernel_rfl) (by kernel_rfl) (by kernel_rfl) (fun _ _ _ h => h) (Or.inl ⟨by rfl, ?_⟩) hS ?_
  rotate_left
  · (intro wq hq; go_simp; try with_reducible rfl)
  try simp only [Act.put, List.setIfInBounds_toArray, List.set_cons_zero, List.set_cons_succ, List.getElem_toArray, List.getElem_cons_zero, List.getElem_cons_succ]
  refine AnyTo.take (i := 4) (v := .slice A2 n c2) rfl (by kernel_rfl) (by kernel_rfl) (by kernel_rfl) (by kernel_rfl) (by kernel_rfl) (fun _ _ _ h => h) (Or.inl ⟨by rfl, ?_⟩) hS ?_
  · intro wq hq
    have dq0 := EX.out wq hq
    go_simp
  try simp only [Act.put, List.setIfInBounds_toArray, List.set_cons_zero, List.set_cons_succ, List.getElem_toArray, List.getElem_cons_zero, List.getElem_cons_succ]
  refine AnyTo.take (i := 5) (v := ?_) rfl (by kernel_rfl) (by kernel_rfl) (by kernel_rfl) (by kernel_rfl) (by kernel_rfl) (fun _ _ _ h => h) (Or.inl ⟨by rfl, ?_⟩) hS ?_
  rotate_left
  · (intro wq hq; go_simp; try with_reducible rfl)
  try simp only [Act.put, List.setIfInBounds_toArray, List.set_cons_zero, List.set_cons_succ, List.getElem_toArray, List.getElem_cons_zero, List.getElem_cons_succ]
  have HCa := HCd.out
  refine AnyTo.gone (i := 6) (by kernel_rfl) rfl (by rfl) (fun K hK => ?_)
  go_simp
  (with_reducible refine (K1.out _).mono ?_)
  rintro e wc ⟨Ac, cc, rfl, hsr, hcc, hbc⟩
  have hS : SB Wd wc := SB.next (SB.refl Wd) hbc
  have HCa := HCa.next hbc
  dsimp only
  refine hK _ _ (fun _ => hS) ?_
  clear hK K
  try simp only [Act.put, List.setIfInBounds_toArray, List.set_cons_zero, List.set_cons_succ, List.getElem_toArray, List.getElem_cons_zero, List.getElem_cons_succ]
  refine AnyTo.gone (i := 7) (by kernel_rfl) rfl (by rfl) (fun K hK => ?_)
  refine wp_app (.tmp 6) (.tmp 12) rfl rfl B v L.length (vbs L) rfl HCa.ob Ac m1 cc (vbs (form n)) rfl hsr hcc (by omega) HCa.hB ?_
  intro vp wa h1 h2
  obtain ⟨ca, fa, hC, Axp, lxp, cxp, rfl⟩ := CapV.app HCa h1 h2
  refine hK _ _ (fun h => absurd h (by decide)) ?_
  clear hK K
  try simp only [Act.put, List.setIfInBounds_toArray, List.set_cons_zero, List.set_cons_succ, List.getElem_toArray, List.getElem_cons_zero, List.getElem_cons_succ]
  refine AnyTo.gone (i := 8) (by kernel_rfl) rfl (by rfl) (fun K hK => ?_)
  go_simp
  refine hK _ _ (fun h => absurd h (by decide)) ?_
  clear hK K
  try simp only [Act.put, List.setIfInBounds_toArray, List.set_cons_zero, List.set_cons_succ, List.getElem_toArray, List.getElem_cons_zero, List.getElem_cons_succ]
  refine AnyTo.done (by kernel_rfl) ?_ _
  try dsimp only [Exit.then]
  generalize wa.setCell ⟨cb, 0, none⟩ (.slice Axp lxp cxp) = wp at hC ⊢
  clear ca fa h1 h2 HCa HCd EC
  obtain ⟨L1, hL1⟩ : ∃ M, M = L ++ form n := ⟨_, rfl⟩
  have hl1 : L1.length ≤ 1000036 := by rw [hL1, List.length_append, ← Hm1.out]; omega
  rw [← hL1] at hC
  have HL1 := Lib.hid hL1
  have c35 := HX.out wp hC.bel
  have HC := Lib.hid hC
  clear hL1 EX hsr hcc hbc hS hC
  go_wp2_with fail
  go_loopw [19] (fun iv wq => ∃ (i : Nat) (z : Value), i ≤ n ∧ iv = .int .i64 (i : Int) ∧ CapV w0 B cb z wq (L1 ++ ((X.take i).map txt).flatten)) (fun iv _ => n - (intOf iv).toNat)
  case atStart => exact ⟨0, _, Nat.zero_le _, rfl, by simpa using HC.out⟩
  case round =>
    clear HC c35
    obtain ⟨i, z, hi, rfl, hC⟩ := hrel
    by_cases hlt : i < n
    · have hlt' : (i : Int) < (n : Int) := by omega
      obtain ⟨wb, wo, Ai, ci, rfl, hwb, hcell, hrd, hcn⟩ := HR.out i hlt
      have c0 : wr.cell? ⟨wb, wo + i, none⟩ = some (.slice Ai (X.getD i []).length ci) := by rw [hC.bel.cell (p := ⟨wb, wo + i, none⟩) hwb]; exact hcell
      obtain ⟨T, hT⟩ : ∃ T, T = X.getD i [] := ⟨_, rfl⟩
      have hTl : T.length ≤ 1000 := by rw [hT]; exact Hwi.out _ (getD_mem _ _ _ (by rw [← Hn.out]; exact hlt))
      have hst := flat_succ txt X [] i (by rw [← Hn.out]; exact hlt)
      have hbd : ((X.take i).map txt).flatten.length ≤ i * 1009 := by
        have := flat_le txt 1009 (X.take i) (take_sub fun t ht => by have h1 := txt_len t; have h2 := Hwi.out t ht; omega)
        rw [List.length_take, Nat.min_eq_left (by rw [← Hn.out]; exact hi)] at this
        exact this
      rw [← hT] at c0 hrd hst
      obtain ⟨m2, hm2⟩ : ∃ m, m = (txt T).length := ⟨_, rfl⟩
      have hm2l : m2 ≤ 1009 := by have := txt_len T; omega
      obtain ⟨n1, hn1⟩ : ∃ n, n = T.length := ⟨_, rfl⟩
      have K2 : Hid (∀ wq, Below B w0 wq → B ≤ wq.heap.size → Calls Tryd.prog 71 #[.slice none 0 0, .slice Ai n1 ci] wq fun e w' => ∃ A c, e = .returned (.slice A m2 c) ∧ Src22 w' A m2 (vbs (txt T)) ∧ (A = none → c = 0) ∧ Below wq.heap.size wq w') := fun wq hq hB =>
        text_w T Ai n1 ci m2 wq hn1.symm hm2.symm ((hrd.keep hq).up hB) hcn (by omega)
      rw [← hn1] at c0
      obtain ⟨L2, hL2⟩ : ∃ M, M = L1 ++ ((X.take i).map txt).flatten := ⟨_, rfl⟩
      have hl2 : L2.length ≤ 2100036 := by rw [hL2, List.length_append]; omega
      have HS2 : Hid (L1 ++ ((X.take (i + 1)).map txt).flatten = L2 ++ txt T) := show L1 ++ ((X.take (i + 1)).map txt).flatten = L2 ++ txt T by rw [hst, hL2, List.append_assoc]
      rw [← hL2] at hC
      have HC := Lib.hid hC
      clear hcell hrd hcn hT hst hbd hm2 hn1 hL2 hC hTl
      go_upto_region 5 with fail
      have hC := HC.out
      clear HC
      generalize hWd : wr.drew = Wd
      have hCd : CapV w0 B cb z Wd L2 := by rw [← hWd]; exact hC.drew
      have EC : Hid (∀ wq, SB Wd wq → wq.cell? ⟨cb, 0, none⟩ = some z) := fun wq hq => hq.cell (hCd.blk.cell rfl)
      have HCd := Lib.hid hCd
      clear hCd hC
      refine wp_calm_any ?_
      refine wp_region_to (z := 3) (SB Wd) (by kernel_rfl) ?_
      rw [hWd]
      have hS : SB Wd Wd := SB.refl Wd
      clear hWd
      refine AnyTo.take (i := 0) (v := z) rfl (by kernel_rfl) (by kernel_rfl) (by kernel_rfl) (by kernel_rfl) (by kernel_rfl) (fun _ _ _ h => h) (Or.inl ⟨by rfl, ?_⟩) hS ?_
      · intro wq hq
        have dq0 := EC.out wq hq
        go_simp
      try simp only [Act.put, List.setIfInBounds_toArray, List.set_cons_zero, List.set_cons_succ, List.getElem_toArray, List.getElem_cons_zero, List.getElem_cons_succ]
      refine AnyTo.take (i := 1) (v := ?_) rfl (by kernel_rfl) (by kernel_rfl) (by kernel_rfl) (by kernel_rfl) (by kernel_rfl) (fun _ _ _ h => h) (Or.inl ⟨by rfl, ?_⟩) hS ?_
      rotate_left
      · (intro wq hq; go_simp; try with_reducible rfl)
      try simp only [Act.put, List.setIfInBounds_toArray, List.set_cons_zero, List.set_cons_succ, List.getElem_toArray, List.getElem_cons_zero, List.getElem_cons_succ]
      have HCa := HCd.out
      refine AnyTo.gone (i := 2) (by kernel_rfl) rfl (by rfl) (fun K hK => ?_)
      go_simp
      (with_reducible refine (K2.out _ HCa.bel HCa.hB).mono ?_)
      rintro e wc ⟨Ac, cc, rfl, hsr, hcc, hbc⟩
      have hS : SB Wd wc := SB.next (SB.refl Wd) hbc
      have HCa := HCa.next hbc
      dsimp only
      refine hK _ _ (fun _ => hS) ?_
      clear hK K
      try simp only [Act.put, List.setIfInBounds_toArray, List.set_cons_zero, List.set_cons_succ, List.getElem_toArray, List.getElem_cons_zero, List.getElem_cons_succ]
      refine AnyTo.gone (i := 3) (by kernel_rfl) rfl (by rfl) (fun K hK => ?_)
      refine wp_app (.tmp 23) (.tmp 25) rfl rfl B z L2.length (vbs L2) rfl HCa.ob Ac m2 cc (vbs (txt T)) rfl hsr hcc (by omega) HCa.hB ?_
      intro vt wa h1 h2
      obtain ⟨ca, fa, hC, Axt, lxt, cxt, rfl⟩ := CapV.app HCa h1 h2
      refine hK _ _ (fun h => absurd h (by decide)) ?_
      clear hK K
      try simp only [Act.put, List.setIfInBounds_toArray, List.set_cons_zero, List.set_cons_succ, List.getElem_toArray, List.getElem_cons_zero, List.getElem_cons_succ]
      refine AnyTo.gone (i := 4) (by kernel_rfl) rfl (by rfl) (fun K hK => ?_)
      go_simp
      refine hK _ _ (fun h => absurd h (by decide)) ?_
      clear hK K
      try simp only [Act.put, List.setIfInBounds_toArray, List.set_cons_zero, List.set_cons_succ, List.getElem_toArray, List.getElem_cons_zero, List.getElem_cons_succ]
      refine AnyTo.done (by kernel_rfl) ?_ _
      try dsimp only [Exit.then]
      generalize wa.setCell ⟨cb, 0, none⟩ (.slice Axt lxt cxt) = wt at hC ⊢
      clear ca fa h1 h2 HCa HCd EC
      have HC := Lib.hid hC
      clear hC hsr hcc hbc hS
      go_wp2_with fail
      go_roundw
      case rel => exact ⟨i + 1, _, by omega, by go_num, by rw [HS2.out]; exact HC.out⟩
      case measure => simp [intOf]; omega
    · obtain rfl : i = n := by omega
      have hlt' : ¬ (i : Int) < (i : Int) := by omega
      rw [List.take_of_length_le (by rw [Hn.out]; exact Nat.le_refl _)] at hC
      have HC := Lib.hid hC
      clear hC
      go_wp2_with fail
      go_ret
      exact ⟨rfl, _, by rw [HL0.out, ← List.append_assoc, ← HL1.out]; exact HC.out⟩
/-- The bytes of all inputs' witnesses. -/
def witsB (xs : List TIn) : List (BitVec 8) := (xs.map witB).flatten
/-- Witnesses short enough to be written. -/
def WitOk (xs : List TIn) : Prop := ∀ x ∈ xs, x.wt.length ≤ 8 ∧ ∀ t ∈ x.wt, t.length ≤ 128
theorem witB_le {xs : List TIn} (h : WitOk xs) : ∀ x ∈ xs, (witB x).length ≤ 2000 := fun x hx => by
  obtain ⟨h1, h2⟩ := h x hx
  have h3 := flat_le txt 137 x.wt fun t ht => by have := txt_len t; have := h2 t ht; omega
  have h4 := wid_le x.wt.length
  simp only [witB, List.length_append, form_len]
  omega
set_option maxHeartbeats 4000000 in
theorem wits_any (xs : List TIn) (i : Value) (w : World) (h : Is w w.heap.size i xs) (hl : xs.length ≤ 16) (hok : WitOk xs) : Calls Tryd.prog 74 #[i] w (LaidPost (witsB xs) w) := by
  obtain ⟨A, cap, rfl, _, _, hrow⟩ := h
  obtain ⟨b, o, hA, hb⟩ : ∃ b o, (0 < xs.length → A = some ⟨b, o, none⟩) ∧ ∀ j, j < xs.length → b < w.heap.size ∧ ∃ s u, w.rangeAt b (o + j * 36) (inV (xs.getD j In0) s u) ∧ InOk w w.heap.size (xs.getD j In0) s u := by
    by_cases hp : 0 < xs.length
    · obtain ⟨b, o, e, hlt, hh⟩ := hrow hp
      exact ⟨b, o, fun _ => e, fun j hj => ⟨hlt, hh j hj⟩⟩
    · exact ⟨0, 0, fun h => absurd h hp, fun j hj => by omega⟩
  have hC1 : CapV w w.heap.size w.heap.size (.slice none 0 0) (w.alloc (.cells #[.slice none 0 0] 27)) [] := ⟨Blk.new w 27 #[.slice none 0 0], OB.nil _ _, (Below.refl _ _).alloc (Nat.le_refl _) _, Nat.le_refl _, Nat.le_refl _⟩
  have K := Lib.hid (each_wit (fun j => ((xs.take j).map witB).flatten) A xs.length cap b o w.heap.size w.heap.size w _ _ hA (by omega) (fun j hj wq u hC => by
    obtain ⟨hlt, s, u', hr, hk⟩ := hb j hj
    have hle : ((xs.take j).map witB).flatten.length ≤ j * 2000 := by
      have := flat_le witB 2000 (xs.take j) (take_sub (witB_le hok))
      rw [List.length_take, Nat.min_eq_left (by omega)] at this
      exact this
    obtain ⟨k1, k2⟩ := hok _ (getD_mem xs In0 j hj)
    have := wWit_any (xs.getD j In0) s u' b (o + j * 36) w.heap.size w.heap.size u w wq _ hlt hr hk hC (by omega) (by omega) (fun t ht => by have := k2 t ht; omega)
    rw [← flat_succ witB xs In0 j hj] at this
    exact this) hC1)
  rw [List.take_of_length_le (Nat.le_refl _)] at K
  obtain ⟨n, hn⟩ : ∃ n, n = xs.length := ⟨_, rfl⟩
  rw [← hn] at K ⊢
  clear hrow hA hb hC1 hok hn
  go_enter Tryd.func74, Tryd.ntmps74
  go_wp2_with (go_at_call 69; (with_reducible refine K.out.mono ?_); rintro e w2 ⟨rfl, v2, hC2⟩; have cv := hC2.blk.cell (j := 0) rfl; have HC2 := Lib.hid hC2; clear hC2; dsimp only)
  go_ret
  exact ⟨_, rfl, HC2.out.ob, HC2.out.bel⟩
open Go.RowKit
set_option linter.unusedVariables false
set_option linter.unusedSimpArgs false
set_option maxRecDepth 100000
/-- The bytes of a transaction, full or bare. -/
def layB (t : TTx) (full : Bool) : List (BitVec 8) :=
  les t.ver 4 ++ (if full = true then [0, 1] else []) ++ form t.ins.length ++ (t.ins.map inB).flatten ++ form t.outs.length ++ (t.outs.map outB).flatten ++ (if full = true then witsB t.ins else []) ++ les t.lock 4
theorem chk_zero {t : TTx} (h : chk t = 0) : t.ins.length ≤ 16 ∧ t.outs.length ≤ 16 ∧ (∀ x ∈ t.ins, x.sc.length ≤ 128) ∧ WitOk t.ins ∧ (∀ y ∈ t.outs, y.sc.length ≤ 128) ∧ 0 < t.ins.length ∧ 0 < t.outs.length := by
  have fit : ∀ n, fitE n = 0 → 0 < n ∧ n ≤ 16 := by
    intro n hn
    unfold fitE at hn
    split at hn
    · cases hn
    · split at hn
      · cases hn
      · omega
  unfold chk at h
  split at h
  · rename_i h1; exact absurd h h1
  · rename_i h1
    split at h
    · rename_i h2; exact absurd h h2
    · rename_i h2
      split at h
      · cases h
      · rename_i h3
        have e1 : t.ins.any lngIn = false := by cases hh : t.ins.any lngIn with | true => exact absurd (Or.inl hh) h3 | false => rfl
        have e2 : t.outs.any lngOut = false := by cases hh : t.outs.any lngOut with | true => exact absurd (Or.inr hh) h3 | false => rfl
        have f1 := fit _ (Decidable.not_not.1 h1)
        have f2 := fit _ (Decidable.not_not.1 h2)
        refine ⟨f1.2, f2.2, fun x hx => ?_, fun x hx => ?_, fun y hy => ?_, f1.1, f2.1⟩
        · have := List.any_eq_false.1 e1 x hx
          simp [lngIn, lng] at this
          omega
        · have := List.any_eq_false.1 e1 x hx
          simp [lngIn, lng] at this
          exact ⟨by omega, fun t ht => this.2 t ht⟩
        · have := List.any_eq_false.1 e2 y hy
          simp [lngOut, lng] at this
          omega
theorem strCells_vbs : Lib.strCells { data := #[0, 1] } = vbs [0, 1] := by kernel_rfl
theorem run_appS {w : World} {B : Nat} {v : Value} {L : List (BitVec 8)} (hown : OB w B v L) (hb : L.length ≤ 1000000) (hbase : B ≤ w.heap.size) :
    ∃ v' w', (Builtin.append_ #[27, 9] 27 #[v, .string { data := #[0, 1] }]).run Tryd.prog w = .ok v' w' ∧ w'.ownsRow B 5 1 v' (L.length + 2) (vbs L ++ vbs [0, 1]) ∧ w.grownBy w' v.ownBlock := by
  obtain ⟨i0, hi, hz0, hz1, hz2⟩ := info_parts info5
  obtain ⟨v', w', hr, ho, hg, _⟩ := Lib.run_append_own_string (P := Tryd.prog) w B 27 9 27 5 i0 Tryd.underlying27 Tryd.underlying9 hi hz0 hz1 hz2 v L.length (vbs L) hown { data := #[0, 1] } (by show L.length + 2 ≤ _; unfold maxLen; omega) (by show L.length + 2 ≤ _; omega) hbase
  rw [strCells_vbs] at ho
  exact ⟨v', w', hr, ho, hg⟩
theorem wpList_pushS {w : World} {ops : Array Oper} {rest : List Oper} {o : Oper} {a : Act} {Q : Exit → Act → World → Prop} (hgd : o.guard = none) (s x : Operand) (ho : o.op = .call { callee := .builtin .append, args := #[s, x], argTypes := #[27, 9] }) (hty : o.type = 27)
    (B : Nat) (v : Value) (L : List (BitVec 8)) (hs : a.eval s = v) (hown : OB w B v L) (hx : a.eval x = .string { data := #[0, 1] }) (hb : L.length ≤ 1000000) (hB : B ≤ w.heap.size)
    (h : ∀ v' w', w'.ownsRow B 5 1 v' (L.length + 2) (vbs L ++ vbs [0, 1]) → w.grownBy w' v.ownBlock → wpList Tryd.prog ops Q rest (a.put o.dst v') w') : wpList Tryd.prog ops Q (o :: rest) a w := by
  obtain ⟨v', w', hr, h2, h3⟩ := run_appS hown hb hB
  refine wpList_plain hgd fun K hK => ?_
  rw [← hty] at hr
  unfold Oper.wp execOp
  simp only [ho, resolve, invoke, builtin, Sem.run_bind, Sem.run_pure, Result.andThen_ok, List.map_toArray, List.map_cons, List.map_nil, hs, hx]
  rw [hty] at hr ⊢
  simp only [hr]
  exact hK _ _ (h v' w' h2 h3)
theorem Row.open {w : World} {B : Nat} {v : Value} {n k : Nat} {R : Nat → Nat → Nat → Prop} (h : Row w B v n k R) :
    ∃ A cap b o, v = .slice A n cap ∧ (0 < n → A = some ⟨b, o, none⟩) ∧ ∀ j, j < n → b < B ∧ R j b (o + j * k) := by
  obtain ⟨A, cap, e, _, _, hr⟩ := h
  by_cases hp : 0 < n
  · obtain ⟨b, o, eA, hlt, hh⟩ := hr hp
    exact ⟨A, cap, b, o, e, fun _ => eA, fun j hj => ⟨hlt, hh j hj⟩⟩
  · exact ⟨A, cap, 0, 0, e, fun h => absurd h hp, fun j hj => by omega⟩
theorem inB_le {x : TIn} (h : x.sc.length ≤ 128) (h32 : x.tx.length = 32) : (inB x).length ≤ 200 := by
  have := txt_len x.sc
  simp only [inB, List.length_append, les_len]
  omega
theorem outB_le {y : TOut} (h : y.sc.length ≤ 128) : (outB y).length ≤ 200 := by
  have := txt_len y.sc
  simp only [outB, List.length_append, les_len]
  omega
theorem wits_w (xs : List TIn) (A : Option Addr) (n c m : Nat) (w : World) (h : Is w w.heap.size (.slice A n c) xs) (hl : xs.length ≤ 16) (hok : WitOk xs) (hm : (witsB xs).length = m) :
    Calls Tryd.prog 74 #[.slice A n c] w fun e w' => ∃ A' c', e = .returned (.slice A' m c') ∧ Src22 w' A' m (vbs (witsB xs)) ∧ (A' = none → c' = 0) ∧ Below w.heap.size w w' :=
  (wits_any xs _ w h hl hok).mono fun e w' ⟨v, he, ho, hb⟩ => by
    obtain ⟨A', c', rfl, hr, hc⟩ := slice_form ho
    have hs := src_of_rd hr
    rw [hm] at hs he
    exact ⟨A', c', he, hs, hc, hb⟩
/-- What the writing of all inputs, of all outputs, makes of the variable. -/
theorem ins_wr (xs : List TIn) (A : Option Addr) (n c B cb : Nat) (w0 w : World) (v : Value) (L : List (BitVec 8)) (hn : n = xs.length) (h : Is w0 B (.slice A n c) xs) (hl : n ≤ 16) (hok : ∀ x ∈ xs, x.sc.length ≤ 128) (hL : L.length ≤ 10000) (hC : CapV w0 B cb v w L) :
    Calls Tryd.prog 69 #[.slice A n c, .func (.func 70) #[] #[.pointer (some ⟨cb, 0, none⟩)]] w (WrPost w0 B cb (L ++ (xs.map inB).flatten)) := by
  obtain ⟨A', c', b, o, e, hA, hj⟩ := Row.open h
  subst hn
  cases e
  have hlen : ∀ x ∈ xs, (inB x).length ≤ 200 := fun x hx => by
    obtain ⟨k, hk, rfl⟩ := List.getElem_of_mem hx
    obtain ⟨_, s, u, _, _, _, h32, _, _⟩ := hj k hk
    have e : xs.getD k In0 = xs[k] := by simp [List.getD, hk]
    rw [e] at h32
    exact inB_le (hok _ hx) h32
  have K := each_in (fun j => L ++ ((xs.take j).map inB).flatten) A xs.length c b o B cb w0 w v hA (by omega) (fun j hjn wq u hC' => by
    obtain ⟨hlt, s, u', hr, hk⟩ := hj j hjn
    have hle : ((xs.take j).map inB).flatten.length ≤ j * 200 := by
      have := flat_le inB 200 (xs.take j) (take_sub hlen)
      rw [List.length_take, Nat.min_eq_left (by omega)] at this
      exact this
    have := wIn_any (xs.getD j In0) s u' b (o + j * 36) B cb u w0 wq _ hlt hr hk hC' (by rw [List.length_append]; omega) (by have := hok _ (getD_mem xs In0 j hjn); omega)
    rw [List.append_assoc, ← flat_succ inB xs In0 j hjn] at this
    exact this) (by simpa using hC)
  rw [List.take_of_length_le (Nat.le_refl _)] at K
  exact K
theorem outs_wr (xs : List TOut) (A : Option Addr) (n c B cb : Nat) (w0 w : World) (v : Value) (L : List (BitVec 8)) (hn : n = xs.length) (h : Os w0 B (.slice A n c) xs) (hl : n ≤ 16) (hok : ∀ x ∈ xs, x.sc.length ≤ 128) (hL : L.length ≤ 10000) (hC : CapV w0 B cb v w L) :
    Calls Tryd.prog 72 #[.slice A n c, .func (.func 73) #[] #[.pointer (some ⟨cb, 0, none⟩)]] w (WrPost w0 B cb (L ++ (xs.map outB).flatten)) := by
  obtain ⟨A', c', b, o, e, hA, hj⟩ := Row.open h
  subst hn
  cases e
  have K := each_out (fun j => L ++ ((xs.take j).map outB).flatten) A xs.length c b o B cb w0 w v hA (by omega) (fun j hjn wq u hC' => by
    obtain ⟨hlt, s, hr, hk⟩ := hj j hjn
    have hle : ((xs.take j).map outB).flatten.length ≤ j * 200 := by
      have := flat_le outB 200 (xs.take j) (take_sub fun x hx => outB_le (hok x hx))
      rw [List.length_take, Nat.min_eq_left (by omega)] at this
      exact this
    have := wOut_any (xs.getD j Out0) s b (o + j * 2) B cb u w0 wq _ hlt hr hk hC' (by rw [List.length_append]; omega) (by have := hok _ (getD_mem xs Out0 j hjn); omega)
    rw [List.append_assoc, ← flat_succ outB xs Out0 j hjn] at this
    exact this) (by simpa using hC)
  rw [List.take_of_length_le (Nat.le_refl _)] at K
  exact K
open Go.RowKit
set_option linter.unusedVariables false
set_option linter.unusedSimpArgs false
set_option maxRecDepth 100000
theorem form_len9 (n : Nat) : (form n).length ≤ 9 := by rw [form_len]; have := wid_le n; omega
set_option maxHeartbeats 8000000 in
theorem written_true (t : TTx) (i o : Value) (w : World) (h : TxOk w w.heap.size t i o) (hc : chk t = 0) : Calls Tryd.prog 48 #[txV t i o, .bool true] w (LaidPost (layB t true) w) := by
  obtain ⟨hins, houts, hver, hlock⟩ := h
  obtain ⟨z1, z2, z3, z4, z5, _, _⟩ := chk_zero hc
  have hins' := hins
  have houts' := houts
  obtain ⟨A1, c1, rfl, _, _, r1⟩ := hins
  obtain ⟨A2, c2, rfl, _, _, r2⟩ := houts
  obtain ⟨n1, hn1⟩ : ∃ n, n = t.ins.length := ⟨_, rfl⟩
  obtain ⟨n2, hn2⟩ : ∃ n, n = t.outs.length := ⟨_, rfl⟩
  obtain ⟨ver, hv⟩ : ∃ n, n = t.ver := ⟨_, rfl⟩
  obtain ⟨lock, hlk⟩ : ∃ n, n = t.lock := ⟨_, rfl⟩
  have K1 := Lib.hid (fun wq => number_any 4 ver wq rfl (by rw [hv]; simpa using hver) (by omega))
  have KL := Lib.hid (fun wq => num4_w lock wq (by omega))
  have hwv : IntKind.u64.wrap (ver : Int) = (ver : Int) := by rw [IntKind.wrap_u64]; omega
  have hwl : IntKind.u64.wrap (lock : Int) = (lock : Int) := by rw [IntKind.wrap_u64]; omega
  have hn16 : n1 ≤ 16 := by omega
  have hn26 : n2 ≤ 16 := by omega
  obtain ⟨XB, hXB⟩ : ∃ L, L = (t.ins.map inB).flatten := ⟨_, rfl⟩
  obtain ⟨YB, hYB⟩ : ∃ L, L = (t.outs.map outB).flatten := ⟨_, rfl⟩
  have hXl : XB.length ≤ 3200 := by
    obtain ⟨_, _, b, o, _, _, hj⟩ := Row.open hins'
    have := flat_le inB 200 t.ins fun x hx => by
      obtain ⟨k, hk, rfl⟩ := List.getElem_of_mem hx
      obtain ⟨_, s, u, _, _, _, h32, _, _⟩ := hj k hk
      have e : t.ins.getD k In0 = t.ins[k] := by simp [List.getD, hk]
      rw [e] at h32
      exact inB_le (z3 _ hx) h32
    rw [← hXB] at this
    omega
  have hYl : YB.length ≤ 3200 := by
    have := flat_le outB 200 t.outs fun x hx => outB_le (z5 x hx)
    rw [← hYB] at this
    omega
  have hWl : (witsB t.ins).length ≤ 32000 := by
    have := flat_le witB 2000 t.ins (witB_le z4)
    unfold witsB
    omega
  rw [← hn1] at hins'
  rw [← hn2] at houts'
  have HI := Lib.hid hins'
  have HO := Lib.hid houts'
  have HE := Lib.hid (⟨hn1, hn2⟩ : n1 = t.ins.length ∧ n2 = t.outs.length)
  have HZ := Lib.hid (⟨z3, z4, z5⟩ : (∀ x ∈ t.ins, x.sc.length ≤ 128) ∧ WitOk t.ins ∧ (∀ y ∈ t.outs, y.sc.length ≤ 128))
  obtain ⟨LB, hLB⟩ : ∃ L, L = layB t true := ⟨_, rfl⟩
  have HLB : Hid (LB = les ver 4 ++ [0, 1] ++ form n1 ++ XB ++ form n2 ++ YB ++ witsB t.ins ++ les lock 4) := show LB = les ver 4 ++ [0, 1] ++ form n1 ++ XB ++ form n2 ++ YB ++ witsB t.ins ++ les lock 4 by rw [hLB, hXB, hYB, hn1, hn2, hv, hlk]; simp [layB]
  have HXB := Lib.hid hXB
  have HYB := Lib.hid hYB
  unfold txV
  rw [← hLB, ← hv, ← hlk, ← hn1, ← hn2]
  clear r1 r2 hins' houts' hn1 hn2 hv hlk z1 z2 z3 z4 z5 hc hver hlock hLB hXB hYB
  obtain ⟨m1, hm1⟩ : ∃ m, m = (form n1).length := ⟨_, rfl⟩
  obtain ⟨m2, hm2⟩ : ∃ m, m = (form n2).length := ⟨_, rfl⟩
  have hm1l : m1 ≤ 9 := by rw [hm1]; exact form_len9 _
  have hm2l : m2 ≤ 9 := by rw [hm2]; exact form_len9 _
  have KC1 := Lib.hid (fun wq => count_w n1 m1 wq (by omega) hm1.symm)
  have KC2 := Lib.hid (fun wq => count_w n2 m2 wq (by omega) hm2.symm)
  have Hm1 := Lib.hid hm1
  have Hm2 := Lib.hid hm2
  clear hm1 hm2
  go_enter Tryd.func48, Tryd.ntmps48
  go_upto_region 2 with (go_at_call 67; (refine (K1.out _).mono ?_); rintro e w2 ⟨v, rfl, ho, hb2⟩; obtain ⟨Av, cv, rfl, hrv, hcv⟩ := slice_form ho; dsimp only)
  obtain ⟨B, hBdef⟩ : ∃ B, B = (w.alloc (.cells #[.int .u32 (ver : Int), .slice A1 n1 c1, .slice A2 n2 c2, .int .u32 (lock : Int)] 26)).heap.size := ⟨_, rfl⟩
  have hb1 : Below w.heap.size w (w.alloc (.cells #[.int .u32 (ver : Int), .slice A1 n1 c1, .slice A2 n2 c2, .int .u32 (lock : Int)] 26)) := (Below.refl _ _).alloc (Nat.le_refl _) _
  have hlt : w.heap.size < B := by rw [hBdef]; simp
  have hT1 : (w.alloc (.cells #[.int .u32 (ver : Int), .slice A1 n1 c1, .slice A2 n2 c2, .int .u32 (lock : Int)] 26)).cell? ⟨w.heap.size, 1, none⟩ = some (.slice A1 n1 c1) := cell_new rfl rfl
  have hT2 : (w.alloc (.cells #[.int .u32 (ver : Int), .slice A1 n1 c1, .slice A2 n2 c2, .int .u32 (lock : Int)] 26)).cell? ⟨w.heap.size, 2, none⟩ = some (.slice A2 n2 c2) := cell_new rfl rfl
  have hT3 : (w.alloc (.cells #[.int .u32 (ver : Int), .slice A1 n1 c1, .slice A2 n2 c2, .int .u32 (lock : Int)] 26)).cell? ⟨w.heap.size, 3, none⟩ = some (.int .u32 (lock : Int)) := cell_new rfl rfl
  have hI1 := (HI.out.keep hb1 (Nat.le_refl _)).up (Nat.le_of_lt hlt)
  have hO1 := (HO.out.keep hb1 (Nat.le_refl _)).up (Nat.le_of_lt hlt)
  rw [← hBdef] at ho hb2
  have hBs := hBdef
  generalize w.alloc (.cells #[.int .u32 (ver : Int), .slice A1 n1 c1, .slice A2 n2 c2, .int .u32 (lock : Int)] 26) = w1 at hb1 hT1 hT2 hT3 hI1 hO1 ho hb2 hBdef hBs
  have HT : Hid (∀ wq, Below B w1 wq → wq.cell? ⟨w.heap.size, 1, none⟩ = some (.slice A1 n1 c1) ∧ wq.cell? ⟨w.heap.size, 2, none⟩ = some (.slice A2 n2 c2) ∧ wq.cell? ⟨w.heap.size, 3, none⟩ = some (.int .u32 (lock : Int))) := fun wq hq =>
    ⟨by rw [hq.cell (p := ⟨w.heap.size, 1, none⟩) hlt]; exact hT1, by rw [hq.cell (p := ⟨w.heap.size, 2, none⟩) hlt]; exact hT2, by rw [hq.cell (p := ⟨w.heap.size, 3, none⟩) hlt]; exact hT3⟩
  have hC : CapV w1 B w2.heap.size (.slice Av (les ver 4).length cv) (w2.alloc (.cells #[.slice Av (les ver 4).length cv] 27)) (les ver 4) :=
    ⟨Blk.new w2 27 #[.slice Av (les ver 4).length cv], ho.alloc _, hb2.alloc (by rw [hBdef]; exact hb2.size) _, by rw [hBdef]; exact hb2.size, by rw [hBdef]; exact Nat.le_refl _⟩
  obtain ⟨L0, hL0⟩ : ∃ L, L = les ver 4 := ⟨_, rfl⟩
  have hl0 : L0.length ≤ 4 := by rw [hL0, les_len]; exact Nat.le_refl _
  have HL0 := Lib.hid hL0
  rw [← hL0] at hC ⊢
  generalize w2.alloc (.cells #[.slice Av L0.length cv] 27) = w3 at hC ⊢
  generalize w2.heap.size = cb at hC ⊢
  generalize L0.length = lv at hC ⊢
  have Hb1 := Lib.hid hb1
  have HI1 := Lib.hid hI1
  have HO1 := Lib.hid hO1
  have HBs := Lib.hid hBs
  clear ho hb2 hrv hcv hT1 hT2 hT3 hI1 hO1 hb1 hBdef hBs hL0 hwv K1 HI HO
  have cc0 := hC.blk.cell (j := 0) rfl
  have HC := Lib.hid hC
  clear hC
  go_upto_region 4 with (((with_reducible show wpList _ _ _ ((⟨some 12, _, _, _, _, _⟩ : Oper) :: _) _ _); refine wpList_pushS (o := ⟨some 12, _, _, _, _, _⟩) rfl (.tmp 11) (.const _) rfl rfl B (.slice Av lv cv) L0 rfl HC.out.ob rfl (by omega) HC.out.hB ?_; intro va wa h1 h2; obtain ⟨ca, fa, hC, Axs, lxs, cxs, rfl⟩ := CapV.app HC.out h1 h2))
  generalize wa.setCell ⟨cb, 0, none⟩ (.slice Axs lxs cxs) = w4 at hC ⊢
  clear ca fa h1 h2 cc0 HC
  obtain ⟨La, hLa⟩ : ∃ M, M = L0 ++ [0, 1] := ⟨_, rfl⟩
  have hla : La.length ≤ 6 := by rw [hLa, List.length_append]; simp; omega
  have HLa := Lib.hid hLa
  rw [← hLa] at hC
  clear hLa
  generalize hWd : w4.drew = Wd
  have hCd : CapV w1 B cb (.slice Axs lxs cxs) Wd La := by rw [← hWd]; exact hC.drew
  have EC : Hid (∀ wq, SB Wd wq → wq.cell? ⟨cb, 0, none⟩ = some (.slice Axs lxs cxs)) := fun wq hq => hq.cell (hCd.blk.cell rfl)
  have EX : Hid (∀ wq, SB Wd wq → wq.cell? ⟨w.heap.size, 1, none⟩ = some (.slice A1 n1 c1)) := fun wq hq => hq.cell (HT.out Wd hCd.bel).1
  have HCd := Lib.hid hCd
  clear hCd hC
  refine wp_region_to (z := 5) (SB Wd) (by kernel_rfl) ?_
  rw [hWd]
  have hS : SB Wd Wd := SB.refl Wd
  clear hWd
  refine AnyTo.take (i := 0) (v := (.slice Axs lxs cxs)) rfl (by kernel_rfl) (by kernel_rfl) (by kernel_rfl) (by kernel_rfl) (by kernel_rfl) (fun _ _ _ h => h) (Or.inl ⟨by rfl, ?_⟩) hS ?_
  · intro wq hq
    have dq0 := EC.out wq hq
    go_simp
  try simp only [Act.put, List.setIfInBounds_toArray, List.set_cons_zero, List.set_cons_succ, List.getElem_toArray, List.getElem_cons_zero, List.getElem_cons_succ]
  refine AnyTo.take (i := 1) (v := ?_) rfl (by kernel_rfl) (by kernel_rfl) (by kernel_rfl) (by kernel_rfl) (by kernel_rfl) (fun _ _ _ h => h) (Or.inl ⟨by rfl, ?_⟩) hS ?_
  rotate_left
  · (intro wq hq; go_simp; try with_reducible rfl)
  try simp only [Act.put, List.setIfInBounds_toArray, List.set_cons_zero, List.set_cons_succ, List.getElem_toArray, List.getElem_cons_zero, List.getElem_cons_succ]
  refine AnyTo.take (i := 2) (v := .slice A1 n1 c1) rfl (by kernel_rfl) (by kernel_rfl) (by kernel_rfl) (by kernel_rfl) (by kernel_rfl) (fun _ _ _ h => h) (Or.inl ⟨by rfl, ?_⟩) hS ?_
  · intro wq hq
    have dq0 := EX.out wq hq
    go_simp
  try simp only [Act.put, List.setIfInBounds_toArray, List.set_cons_zero, List.set_cons_succ, List.getElem_toArray, List.getElem_cons_zero, List.getElem_cons_succ]
  refine AnyTo.take (i := 3) (v := ?_) rfl (by kernel_rfl) (by kernel_rfl) (by kernel_rfl) (by kernel_rfl) (by kernel_rfl) (fun _ _ _ h => h) (Or.inl ⟨by rfl, ?_⟩) hS ?_
  rotate_left
  · (intro wq hq; go_simp; try with_reducible rfl)
  try simp only [Act.put, List.setIfInBounds_toArray, List.set_cons_zero, List.set_cons_succ, List.getElem_toArray, List.getElem_cons_zero, List.getElem_cons_succ]
  have HCa := HCd.out
  refine AnyTo.gone (i := 4) (by kernel_rfl) rfl (by rfl) (fun K hK => ?_)
  go_simp
  (with_reducible refine (KC1.out _).mono ?_)
  rintro e wc ⟨Ac, cc, rfl, hsr, hcc, hbc⟩
  have hS : SB Wd wc := SB.next (SB.refl Wd) hbc
  have HCa := HCa.next hbc
  dsimp only
  refine hK _ _ (fun _ => hS) ?_
  clear hK K
  try simp only [Act.put, List.setIfInBounds_toArray, List.set_cons_zero, List.set_cons_succ, List.getElem_toArray, List.getElem_cons_zero, List.getElem_cons_succ]
  refine AnyTo.gone (i := 5) (by kernel_rfl) rfl (by rfl) (fun K hK => ?_)
  refine wp_app (.tmp 13) (.tmp 17) rfl rfl B (.slice Axs lxs cxs) La.length (vbs La) rfl HCa.ob Ac m1 cc (vbs (form n1)) rfl hsr hcc (by omega) HCa.hB ?_
  intro vb wa h1 h2
  obtain ⟨ca, fa, hC, Axb, lxb, cxb, rfl⟩ := CapV.app HCa h1 h2
  refine hK _ _ (fun h => absurd h (by decide)) ?_
  clear hK K
  try simp only [Act.put, List.setIfInBounds_toArray, List.set_cons_zero, List.set_cons_succ, List.getElem_toArray, List.getElem_cons_zero, List.getElem_cons_succ]
  refine AnyTo.gone (i := 6) (by kernel_rfl) rfl (by rfl) (fun K hK => ?_)
  go_simp
  refine hK _ _ (fun h => absurd h (by decide)) ?_
  clear hK K
  try simp only [Act.put, List.setIfInBounds_toArray, List.set_cons_zero, List.set_cons_succ, List.getElem_toArray, List.getElem_cons_zero, List.getElem_cons_succ]
  refine AnyTo.done (by kernel_rfl) ?_ _
  try dsimp only [Exit.then]
  generalize wa.setCell ⟨cb, 0, none⟩ (.slice Axb lxb cxb) = wb at hC ⊢
  clear ca fa h1 h2 HCa HCd EC
  clear EX hsr hcc hbc hS
  obtain ⟨Lb, hLb⟩ : ∃ M, M = La ++ form n1 := ⟨_, rfl⟩
  have hlLb : Lb.length ≤ 16 := by rw [hLb, List.length_append]; rw [← Hm1.out]; omega
  have HLb := Lib.hid hLb
  rw [← hLb] at hC
  clear hLb
  have KE := Lib.hid (ins_wr t.ins A1 n1 c1 B cb w1 wb _ Lb HE.out.1 HI1.out hn16 HZ.out.1 (by omega) hC)
  rw [← HXB.out] at KE
  have c1' := (HT.out wb hC.bel).1
  clear hC
  go_upto_region 6 with (go_at_call 69; (with_reducible refine KE.out.mono ?_); rintro e w5 ⟨rfl, v5, hC⟩; obtain ⟨A5, c5, rfl, _, _⟩ := slice_form hC.ob; dsimp only)
  clear KE c1'
  obtain ⟨Lc, hLc⟩ : ∃ M, M = Lb ++ XB := ⟨_, rfl⟩
  have hlLc : Lc.length ≤ 3300 := by rw [hLc, List.length_append]; omega
  have HLc := Lib.hid hLc
  rw [← hLc] at hC
  clear hLc
  generalize Lc.length = l5 at hC
  generalize hWd : w5.drew = Wd
  have hCd : CapV w1 B cb (.slice A5 l5 c5) Wd Lc := by rw [← hWd]; exact hC.drew
  have EC : Hid (∀ wq, SB Wd wq → wq.cell? ⟨cb, 0, none⟩ = some (.slice A5 l5 c5)) := fun wq hq => hq.cell (hCd.blk.cell rfl)
  have EX : Hid (∀ wq, SB Wd wq → wq.cell? ⟨w.heap.size, 2, none⟩ = some (.slice A2 n2 c2)) := fun wq hq => hq.cell (HT.out Wd hCd.bel).2.1
  have HCd := Lib.hid hCd
  clear hCd hC
  refine wp_region_to (z := 5) (SB Wd) (by kernel_rfl) ?_
  rw [hWd]
  have hS : SB Wd Wd := SB.refl Wd
  clear hWd
  refine AnyTo.take (i := 0) (v := (.slice A5 l5 c5)) rfl (by kernel_rfl) (by kernel_rfl) (by kernel_rfl) (by kernel_rfl) (by kernel_rfl) (fun _ _ _ h => h) (Or.inl ⟨by rfl, ?_⟩) hS ?_
  · intro wq hq
    have dq0 := EC.out wq hq
    go_simp
  try simp only [Act.put, List.setIfInBounds_toArray, List.set_cons_zero, List.set_cons_succ, List.getElem_toArray, List.getElem_cons_zero, List.getElem_cons_succ]
  refine AnyTo.take (i := 1) (v := ?_) rfl (by kernel_rfl) (by kernel_rfl) (by kernel_rfl) (by kernel_rfl) (by kernel_rfl) (fun _ _ _ h => h) (Or.inl ⟨by rfl, ?_⟩) hS ?_
  rotate_left
  · (intro wq hq; go_simp; try with_reducible rfl)
  try simp only [Act.put, List.setIfInBounds_toArray, List.set_cons_zero, List.set_cons_succ, List.getElem_toArray, List.getElem_cons_zero, List.getElem_cons_succ]
  refine AnyTo.take (i := 2) (v := .slice A2 n2 c2) rfl (by kernel_rfl) (by kernel_rfl) (by kernel_rfl) (by kernel_rfl) (by kernel_rfl) (fun _ _ _ h => h) (Or.inl ⟨by rfl, ?_⟩) hS ?_
  · intro wq hq
    have dq0 := EX.out wq hq
    go_simp
  try simp only [Act.put, List.setIfInBounds_toArray, List.set_cons_zero, List.set_cons_succ, List.getElem_toArray, List.getElem_cons_zero, List.getElem_cons_succ]
  refine AnyTo.take (i := 3) (v := ?_) rfl (by kernel_rfl) (by kernel_rfl) (by kernel_rfl) (by kernel_rfl) (by kernel_rfl) (fun _ _ _ h => h) (Or.inl ⟨by rfl, ?_⟩) hS ?_
  rotate_left
  · (intro wq hq; go_simp; try with_reducible rfl)
  try simp only [Act.put, List.setIfInBounds_toArray, List.set_cons_zero, List.set_cons_succ, List.getElem_toArray, List.getElem_cons_zero, List.getElem_cons_succ]
  have HCa := HCd.out
  refine AnyTo.gone (i := 4) (by kernel_rfl) rfl (by rfl) (fun K hK => ?_)
  go_simp
  (with_reducible refine (KC2.out _).mono ?_)
  rintro e wc ⟨Ac, cc, rfl, hsr, hcc, hbc⟩
  have hS : SB Wd wc := SB.next (SB.refl Wd) hbc
  have HCa := HCa.next hbc
  dsimp only
  refine hK _ _ (fun _ => hS) ?_
  clear hK K
  try simp only [Act.put, List.setIfInBounds_toArray, List.set_cons_zero, List.set_cons_succ, List.getElem_toArray, List.getElem_cons_zero, List.getElem_cons_succ]
  refine AnyTo.gone (i := 5) (by kernel_rfl) rfl (by rfl) (fun K hK => ?_)
  refine wp_app (.tmp 23) (.tmp 27) rfl rfl B (.slice A5 l5 c5) Lc.length (vbs Lc) rfl HCa.ob Ac m2 cc (vbs (form n2)) rfl hsr hcc (by omega) HCa.hB ?_
  intro vd wa h1 h2
  obtain ⟨ca, fa, hC, Axd, lxd, cxd, rfl⟩ := CapV.app HCa h1 h2
  refine hK _ _ (fun h => absurd h (by decide)) ?_
  clear hK K
  try simp only [Act.put, List.setIfInBounds_toArray, List.set_cons_zero, List.set_cons_succ, List.getElem_toArray, List.getElem_cons_zero, List.getElem_cons_succ]
  refine AnyTo.gone (i := 6) (by kernel_rfl) rfl (by rfl) (fun K hK => ?_)
  go_simp
  refine hK _ _ (fun h => absurd h (by decide)) ?_
  clear hK K
  try simp only [Act.put, List.setIfInBounds_toArray, List.set_cons_zero, List.set_cons_succ, List.getElem_toArray, List.getElem_cons_zero, List.getElem_cons_succ]
  refine AnyTo.done (by kernel_rfl) ?_ _
  try dsimp only [Exit.then]
  generalize wa.setCell ⟨cb, 0, none⟩ (.slice Axd lxd cxd) = wd at hC ⊢
  clear ca fa h1 h2 HCa HCd EC
  clear EX hsr hcc hbc hS
  obtain ⟨Ld, hLd⟩ : ∃ M, M = Lc ++ form n2 := ⟨_, rfl⟩
  have hlLd : Ld.length ≤ 3400 := by rw [hLd, List.length_append]; rw [← Hm2.out]; omega
  have HLd := Lib.hid hLd
  rw [← hLd] at hC
  clear hLd
  have KE := Lib.hid (outs_wr t.outs A2 n2 c2 B cb w1 wd _ Ld HE.out.2 HO1.out hn26 HZ.out.2.2 (by omega) hC)
  rw [← HYB.out] at KE
  have c2' := (HT.out wd hC.bel).2.1
  clear hC
  go_upto_region 8 with (go_at_call 72; (with_reducible refine KE.out.mono ?_); rintro e w6 ⟨rfl, v6, hC⟩; obtain ⟨A6, c6, rfl, _, _⟩ := slice_form hC.ob; dsimp only)
  clear KE c2'
  obtain ⟨Le, hLe⟩ : ∃ M, M = Ld ++ YB := ⟨_, rfl⟩
  have hlLe : Le.length ≤ 6700 := by rw [hLe, List.length_append]; omega
  have HLe := Lib.hid hLe
  rw [← hLe] at hC
  clear hLe
  generalize Le.length = l6 at hC
  obtain ⟨mw, hmw⟩ : ∃ m, m = (witsB t.ins).length := ⟨_, rfl⟩
  have KW : Hid (∀ wq, Below B w1 wq → B ≤ wq.heap.size → Calls Tryd.prog 74 #[.slice A1 n1 c1] wq fun e w' => ∃ A' c', e = .returned (.slice A' mw c') ∧ Src22 w' A' mw (vbs (witsB t.ins)) ∧ (A' = none → c' = 0) ∧ Below wq.heap.size wq w') := fun wq hq hB =>
    wits_w t.ins A1 n1 c1 mw wq ((HI1.out.keep hq (Nat.le_refl _)).up hB) (by rw [← HE.out.1]; exact hn16) HZ.out.2.1 hmw.symm
  obtain ⟨WB, hWB⟩ : ∃ L, L = witsB t.ins := ⟨_, rfl⟩
  rw [← hWB] at KW HLB hmw hWl
  have Hmw := Lib.hid hmw
  clear hWB hmw
  go_upto_region 9 with fail
  generalize hWd : w6.drew = Wd
  have hCd : CapV w1 B cb (.slice A6 l6 c6) Wd Le := by rw [← hWd]; exact hC.drew
  have EC : Hid (∀ wq, SB Wd wq → wq.cell? ⟨cb, 0, none⟩ = some (.slice A6 l6 c6)) := fun wq hq => hq.cell (hCd.blk.cell rfl)
  have EX : Hid (∀ wq, SB Wd wq → wq.cell? ⟨w.heap.size, 1, none⟩ = some (.slice A1 n1 c1)) := fun wq hq => hq.cell (HT.out Wd hCd.bel).1
  have HCd := Lib.hid hCd
  clear hCd hC
  refine wp_region_to (z := 4) (SB Wd) (by kernel_rfl) ?_
  rw [hWd]
  have hS : SB Wd Wd := SB.refl Wd
  clear hWd
  refine AnyTo.take (i := 0) (v := (.slice A6 l6 c6)) rfl (by kernel_rfl) (by kernel_rfl) (by kernel_rfl) (by kernel_rfl) (by kernel_rfl) (fun _ _ _ h => h) (Or.inl ⟨by rfl, ?_⟩) hS ?_
  · intro wq hq
    have dq0 := EC.out wq hq
    go_simp
  try simp only [Act.put, List.setIfInBounds_toArray, List.set_cons_zero, List.set_cons_succ, List.getElem_toArray, List.getElem_cons_zero, List.getElem_cons_succ]
  refine AnyTo.take (i := 1) (v := ?_) rfl (by kernel_rfl) (by kernel_rfl) (by kernel_rfl) (by kernel_rfl) (by kernel_rfl) (fun _ _ _ h => h) (Or.inl ⟨by rfl, ?_⟩) hS ?_
  rotate_left
  · (intro wq hq; go_simp; try with_reducible rfl)
  try simp only [Act.put, List.setIfInBounds_toArray, List.set_cons_zero, List.set_cons_succ, List.getElem_toArray, List.getElem_cons_zero, List.getElem_cons_succ]
  refine AnyTo.take (i := 2) (v := .slice A1 n1 c1) rfl (by kernel_rfl) (by kernel_rfl) (by kernel_rfl) (by kernel_rfl) (by kernel_rfl) (fun _ _ _ h => h) (Or.inl ⟨by rfl, ?_⟩) hS ?_
  · intro wq hq
    have dq0 := EX.out wq hq
    go_simp
  try simp only [Act.put, List.setIfInBounds_toArray, List.set_cons_zero, List.set_cons_succ, List.getElem_toArray, List.getElem_cons_zero, List.getElem_cons_succ]
  have HCa := HCd.out
  refine AnyTo.gone (i := 3) (by kernel_rfl) rfl (by rfl) (fun K hK => ?_)
  go_simp
  (with_reducible refine (KW.out _ HCa.bel HCa.hB).mono ?_)
  rintro e wc ⟨Ac, cc, rfl, hsr, hcc, hbc⟩
  have hS : SB Wd wc := SB.next (SB.refl Wd) hbc
  have HCa := HCa.next hbc
  dsimp only
  refine hK _ _ (fun _ => hS) ?_
  clear hK K
  try simp only [Act.put, List.setIfInBounds_toArray, List.set_cons_zero, List.set_cons_succ, List.getElem_toArray, List.getElem_cons_zero, List.getElem_cons_succ]
  refine AnyTo.gone (i := 4) (by kernel_rfl) rfl (by rfl) (fun K hK => ?_)
  refine wp_app (.tmp 34) (.tmp 37) rfl rfl B (.slice A6 l6 c6) Le.length (vbs Le) rfl HCa.ob Ac mw cc (vbs WB) rfl hsr hcc (by rw [Hmw.out]; omega) HCa.hB ?_
  intro vf wa h1 h2
  obtain ⟨ca, fa, hC, Axf, lxf, cxf, rfl⟩ := CapV.app HCa h1 h2
  refine hK _ _ (fun h => absurd h (by decide)) ?_
  clear hK K
  try simp only [Act.put, List.setIfInBounds_toArray, List.set_cons_zero, List.set_cons_succ, List.getElem_toArray, List.getElem_cons_zero, List.getElem_cons_succ]
  refine AnyTo.gone (i := 5) (by kernel_rfl) rfl (by rfl) (fun K hK => ?_)
  go_simp
  refine hK _ _ (fun h => absurd h (by decide)) ?_
  clear hK K
  try simp only [Act.put, List.setIfInBounds_toArray, List.set_cons_zero, List.set_cons_succ, List.getElem_toArray, List.getElem_cons_zero, List.getElem_cons_succ]
  refine AnyTo.done (by kernel_rfl) ?_ _
  try dsimp only [Exit.then]
  generalize wa.setCell ⟨cb, 0, none⟩ (.slice Axf lxf cxf) = wf at hC ⊢
  clear ca fa h1 h2 HCa HCd EC
  clear EX hsr hcc hbc hS
  obtain ⟨Lf, hLf⟩ : ∃ M, M = Le ++ WB := ⟨_, rfl⟩
  have hlLf : Lf.length ≤ 40000 := by rw [hLf, List.length_append]; omega
  have HLf := Lib.hid hLf
  rw [← hLf] at hC
  clear hLf
  go_upto_region 10 with fail
  generalize hWd : wf.drew = Wd
  have hCd : CapV w1 B cb (.slice Axf lxf cxf) Wd Lf := by rw [← hWd]; exact hC.drew
  have EC : Hid (∀ wq, SB Wd wq → wq.cell? ⟨cb, 0, none⟩ = some (.slice Axf lxf cxf)) := fun wq hq => hq.cell (hCd.blk.cell rfl)
  have EX : Hid (∀ wq, SB Wd wq → wq.cell? ⟨w.heap.size, 3, none⟩ = some (.int .u32 (lock : Int))) := fun wq hq => hq.cell (HT.out Wd hCd.bel).2.2
  have HCd := Lib.hid hCd
  clear hCd hC
  refine wp_region_to (z := 5) (SB Wd) (by kernel_rfl) ?_
  rw [hWd]
  have hS : SB Wd Wd := SB.refl Wd
  clear hWd
  refine AnyTo.take (i := 0) (v := (.slice Axf lxf cxf)) rfl (by kernel_rfl) (by kernel_rfl) (by kernel_rfl) (by kernel_rfl) (by kernel_rfl) (fun _ _ _ h => h) (Or.inl ⟨by rfl, ?_⟩) hS ?_
  · intro wq hq
    have dq0 := EC.out wq hq
    go_simp
  try simp only [Act.put, List.setIfInBounds_toArray, List.set_cons_zero, List.set_cons_succ, List.getElem_toArray, List.getElem_cons_zero, List.getElem_cons_succ]
  refine AnyTo.take (i := 1) (v := ?_) rfl (by kernel_rfl) (by kernel_rfl) (by kernel_rfl) (by kernel_rfl) (by kernel_rfl) (fun _ _ _ h => h) (Or.inl ⟨by rfl, ?_⟩) hS ?_
  rotate_left
  · (intro wq hq; go_simp; try with_reducible rfl)
  try simp only [Act.put, List.setIfInBounds_toArray, List.set_cons_zero, List.set_cons_succ, List.getElem_toArray, List.getElem_cons_zero, List.getElem_cons_succ]
  refine AnyTo.take (i := 2) (v := .int .u32 (lock : Int)) rfl (by kernel_rfl) (by kernel_rfl) (by kernel_rfl) (by kernel_rfl) (by kernel_rfl) (fun _ _ _ h => h) (Or.inl ⟨by rfl, ?_⟩) hS ?_
  · intro wq hq
    have dq0 := EX.out wq hq
    go_simp
  try simp only [Act.put, List.setIfInBounds_toArray, List.set_cons_zero, List.set_cons_succ, List.getElem_toArray, List.getElem_cons_zero, List.getElem_cons_succ]
  refine AnyTo.take (i := 3) (v := ?_) rfl (by kernel_rfl) (by kernel_rfl) (by kernel_rfl) (by kernel_rfl) (by kernel_rfl) (fun _ _ _ h => h) (Or.inl ⟨by rfl, ?_⟩) hS ?_
  rotate_left
  · (intro wq hq; go_simp; try with_reducible rfl)
  try simp only [Act.put, List.setIfInBounds_toArray, List.set_cons_zero, List.set_cons_succ, List.getElem_toArray, List.getElem_cons_zero, List.getElem_cons_succ]
  have HCa := HCd.out
  refine AnyTo.gone (i := 4) (by kernel_rfl) rfl (by rfl) (fun K hK => ?_)
  go_simp
  (with_reducible refine (KL.out _).mono ?_)
  rintro e wc ⟨Ac, cc, rfl, hsr, hcc, hbc⟩
  have hS : SB Wd wc := SB.next (SB.refl Wd) hbc
  have HCa := HCa.next hbc
  dsimp only
  refine hK _ _ (fun _ => hS) ?_
  clear hK K
  try simp only [Act.put, List.setIfInBounds_toArray, List.set_cons_zero, List.set_cons_succ, List.getElem_toArray, List.getElem_cons_zero, List.getElem_cons_succ]
  refine AnyTo.gone (i := 5) (by kernel_rfl) rfl (by rfl) (fun K hK => ?_)
  refine wp_app (.tmp 39) (.tmp 43) rfl rfl B (.slice Axf lxf cxf) Lf.length (vbs Lf) rfl HCa.ob Ac 4 cc (vbs (les lock 4)) rfl hsr hcc (by omega) HCa.hB ?_
  intro vz wa h1 h2
  have hz := OB.app HCa.ob HCa.bel HCa.hB (Nat.le_refl _) (by rw [les_len]; exact h1) h2
  refine hK _ _ (fun h => absurd h (by decide)) ?_
  clear hK K
  try simp only [Act.put, List.setIfInBounds_toArray, List.set_cons_zero, List.set_cons_succ, List.getElem_toArray, List.getElem_cons_zero, List.getElem_cons_succ]
  refine AnyTo.gone (i := 6) (by kernel_rfl) rfl (by rfl) (fun K hK => ?_)
  go_simp
  refine hK _ _ (fun h => absurd h (by decide)) ?_
  clear hK K
  try simp only [Act.put, List.setIfInBounds_toArray, List.set_cons_zero, List.set_cons_succ, List.getElem_toArray, List.getElem_cons_zero, List.getElem_cons_succ]
  refine AnyTo.done (by kernel_rfl) ?_ _
  try dsimp only [Exit.then]
  have HZz := Lib.hid hz
  clear hz h1 h2 HCa HCd EC EX hsr hcc hbc hS
  go_wp2_with fail
  go_ret
  refine ⟨_, rfl, ?_, ?_⟩
  · rw [HLB.out]
    have e : les ver 4 ++ [0, 1] ++ form n1 ++ XB ++ form n2 ++ YB ++ WB ++ les lock 4 = Lf ++ les lock 4 := by
      rw [HLf.out, HLe.out, HLd.out, HLc.out, HLb.out, HLa.out, HL0.out]
    rw [e]
    exact HZz.out.1.base (by omega)
  · exact Hb1.out.trans (Below.mono HZz.out.2 (by omega))
set_option maxHeartbeats 8000000 in
theorem written_false (t : TTx) (i o : Value) (w : World) (h : TxOk w w.heap.size t i o) (hc : chk t = 0) : Calls Tryd.prog 48 #[txV t i o, .bool false] w (LaidPost (layB t false) w) := by
  obtain ⟨hins, houts, hver, hlock⟩ := h
  obtain ⟨z1, z2, z3, z4, z5, _, _⟩ := chk_zero hc
  have hins' := hins
  have houts' := houts
  obtain ⟨A1, c1, rfl, _, _, r1⟩ := hins
  obtain ⟨A2, c2, rfl, _, _, r2⟩ := houts
  obtain ⟨n1, hn1⟩ : ∃ n, n = t.ins.length := ⟨_, rfl⟩
  obtain ⟨n2, hn2⟩ : ∃ n, n = t.outs.length := ⟨_, rfl⟩
  obtain ⟨ver, hv⟩ : ∃ n, n = t.ver := ⟨_, rfl⟩
  obtain ⟨lock, hlk⟩ : ∃ n, n = t.lock := ⟨_, rfl⟩
  have K1 := Lib.hid (fun wq => number_any 4 ver wq rfl (by rw [hv]; simpa using hver) (by omega))
  have KL := Lib.hid (fun wq => num4_w lock wq (by omega))
  have hwv : IntKind.u64.wrap (ver : Int) = (ver : Int) := by rw [IntKind.wrap_u64]; omega
  have hwl : IntKind.u64.wrap (lock : Int) = (lock : Int) := by rw [IntKind.wrap_u64]; omega
  have hn16 : n1 ≤ 16 := by omega
  have hn26 : n2 ≤ 16 := by omega
  obtain ⟨XB, hXB⟩ : ∃ L, L = (t.ins.map inB).flatten := ⟨_, rfl⟩
  obtain ⟨YB, hYB⟩ : ∃ L, L = (t.outs.map outB).flatten := ⟨_, rfl⟩
  have hXl : XB.length ≤ 3200 := by
    obtain ⟨_, _, b, o, _, _, hj⟩ := Row.open hins'
    have := flat_le inB 200 t.ins fun x hx => by
      obtain ⟨k, hk, rfl⟩ := List.getElem_of_mem hx
      obtain ⟨_, s, u, _, _, _, h32, _, _⟩ := hj k hk
      have e : t.ins.getD k In0 = t.ins[k] := by simp [List.getD, hk]
      rw [e] at h32
      exact inB_le (z3 _ hx) h32
    rw [← hXB] at this
    omega
  have hYl : YB.length ≤ 3200 := by
    have := flat_le outB 200 t.outs fun x hx => outB_le (z5 x hx)
    rw [← hYB] at this
    omega
  have hWl : (witsB t.ins).length ≤ 32000 := by
    have := flat_le witB 2000 t.ins (witB_le z4)
    unfold witsB
    omega
  rw [← hn1] at hins'
  rw [← hn2] at houts'
  have HI := Lib.hid hins'
  have HO := Lib.hid houts'
  have HE := Lib.hid (⟨hn1, hn2⟩ : n1 = t.ins.length ∧ n2 = t.outs.length)
  have HZ := Lib.hid (⟨z3, z4, z5⟩ : (∀ x ∈ t.ins, x.sc.length ≤ 128) ∧ WitOk t.ins ∧ (∀ y ∈ t.outs, y.sc.length ≤ 128))
  obtain ⟨LB, hLB⟩ : ∃ L, L = layB t false := ⟨_, rfl⟩
  have HLB : Hid (LB = les ver 4 ++ form n1 ++ XB ++ form n2 ++ YB ++ les lock 4) := show LB = les ver 4 ++ form n1 ++ XB ++ form n2 ++ YB ++ les lock 4 by rw [hLB, hXB, hYB, hn1, hn2, hv, hlk]; simp [layB]
  have HXB := Lib.hid hXB
  have HYB := Lib.hid hYB
  unfold txV
  rw [← hLB, ← hv, ← hlk, ← hn1, ← hn2]
  clear r1 r2 hins' houts' hn1 hn2 hv hlk z1 z2 z3 z4 z5 hc hver hlock hLB hXB hYB
  obtain ⟨m1, hm1⟩ : ∃ m, m = (form n1).length := ⟨_, rfl⟩
  obtain ⟨m2, hm2⟩ : ∃ m, m = (form n2).length := ⟨_, rfl⟩
  have hm1l : m1 ≤ 9 := by rw [hm1]; exact form_len9 _
  have hm2l : m2 ≤ 9 := by rw [hm2]; exact form_len9 _
  have KC1 := Lib.hid (fun wq => count_w n1 m1 wq (by omega) hm1.symm)
  have KC2 := Lib.hid (fun wq => count_w n2 m2 wq (by omega) hm2.symm)
  have Hm1 := Lib.hid hm1
  have Hm2 := Lib.hid hm2
  clear hm1 hm2
  go_enter Tryd.func48, Tryd.ntmps48
  go_upto_region 2 with (go_at_call 67; (refine (K1.out _).mono ?_); rintro e w2 ⟨v, rfl, ho, hb2⟩; obtain ⟨Av, cv, rfl, hrv, hcv⟩ := slice_form ho; dsimp only)
  obtain ⟨B, hBdef⟩ : ∃ B, B = (w.alloc (.cells #[.int .u32 (ver : Int), .slice A1 n1 c1, .slice A2 n2 c2, .int .u32 (lock : Int)] 26)).heap.size := ⟨_, rfl⟩
  have hb1 : Below w.heap.size w (w.alloc (.cells #[.int .u32 (ver : Int), .slice A1 n1 c1, .slice A2 n2 c2, .int .u32 (lock : Int)] 26)) := (Below.refl _ _).alloc (Nat.le_refl _) _
  have hlt : w.heap.size < B := by rw [hBdef]; simp
  have hT1 : (w.alloc (.cells #[.int .u32 (ver : Int), .slice A1 n1 c1, .slice A2 n2 c2, .int .u32 (lock : Int)] 26)).cell? ⟨w.heap.size, 1, none⟩ = some (.slice A1 n1 c1) := cell_new rfl rfl
  have hT2 : (w.alloc (.cells #[.int .u32 (ver : Int), .slice A1 n1 c1, .slice A2 n2 c2, .int .u32 (lock : Int)] 26)).cell? ⟨w.heap.size, 2, none⟩ = some (.slice A2 n2 c2) := cell_new rfl rfl
  have hT3 : (w.alloc (.cells #[.int .u32 (ver : Int), .slice A1 n1 c1, .slice A2 n2 c2, .int .u32 (lock : Int)] 26)).cell? ⟨w.heap.size, 3, none⟩ = some (.int .u32 (lock : Int)) := cell_new rfl rfl
  have hI1 := (HI.out.keep hb1 (Nat.le_refl _)).up (Nat.le_of_lt hlt)
  have hO1 := (HO.out.keep hb1 (Nat.le_refl _)).up (Nat.le_of_lt hlt)
  rw [← hBdef] at ho hb2
  have hBs := hBdef
  generalize w.alloc (.cells #[.int .u32 (ver : Int), .slice A1 n1 c1, .slice A2 n2 c2, .int .u32 (lock : Int)] 26) = w1 at hb1 hT1 hT2 hT3 hI1 hO1 ho hb2 hBdef hBs
  have HT : Hid (∀ wq, Below B w1 wq → wq.cell? ⟨w.heap.size, 1, none⟩ = some (.slice A1 n1 c1) ∧ wq.cell? ⟨w.heap.size, 2, none⟩ = some (.slice A2 n2 c2) ∧ wq.cell? ⟨w.heap.size, 3, none⟩ = some (.int .u32 (lock : Int))) := fun wq hq =>
    ⟨by rw [hq.cell (p := ⟨w.heap.size, 1, none⟩) hlt]; exact hT1, by rw [hq.cell (p := ⟨w.heap.size, 2, none⟩) hlt]; exact hT2, by rw [hq.cell (p := ⟨w.heap.size, 3, none⟩) hlt]; exact hT3⟩
  have hC : CapV w1 B w2.heap.size (.slice Av (les ver 4).length cv) (w2.alloc (.cells #[.slice Av (les ver 4).length cv] 27)) (les ver 4) :=
    ⟨Blk.new w2 27 #[.slice Av (les ver 4).length cv], ho.alloc _, hb2.alloc (by rw [hBdef]; exact hb2.size) _, by rw [hBdef]; exact hb2.size, by rw [hBdef]; exact Nat.le_refl _⟩
  obtain ⟨L0, hL0⟩ : ∃ L, L = les ver 4 := ⟨_, rfl⟩
  have hl0 : L0.length ≤ 4 := by rw [hL0, les_len]; exact Nat.le_refl _
  have HL0 := Lib.hid hL0
  rw [← hL0] at hC ⊢
  generalize w2.alloc (.cells #[.slice Av L0.length cv] 27) = w3 at hC ⊢
  generalize w2.heap.size = cb at hC ⊢
  generalize L0.length = lv at hC ⊢
  have Hb1 := Lib.hid hb1
  have HI1 := Lib.hid hI1
  have HO1 := Lib.hid hO1
  have HBs := Lib.hid hBs
  clear ho hb2 hrv hcv hT1 hT2 hT3 hI1 hO1 hb1 hBdef hBs hL0 hwv K1 HI HO
  go_upto_region 4 with fail
  generalize hWd : w3.drew = Wd
  have hCd : CapV w1 B cb (.slice Av lv cv) Wd L0 := by rw [← hWd]; exact hC.drew
  have EC : Hid (∀ wq, SB Wd wq → wq.cell? ⟨cb, 0, none⟩ = some (.slice Av lv cv)) := fun wq hq => hq.cell (hCd.blk.cell rfl)
  have EX : Hid (∀ wq, SB Wd wq → wq.cell? ⟨w.heap.size, 1, none⟩ = some (.slice A1 n1 c1)) := fun wq hq => hq.cell (HT.out Wd hCd.bel).1
  have HCd := Lib.hid hCd
  clear hCd hC
  refine wp_region_to (z := 5) (SB Wd) (by kernel_rfl) ?_
  rw [hWd]
  have hS : SB Wd Wd := SB.refl Wd
  clear hWd
  refine AnyTo.take (i := 0) (v := (.slice Av lv cv)) rfl (by kernel_rfl) (by kernel_rfl) (by kernel_rfl) (by kernel_rfl) (by kernel_rfl) (fun _ _ _ h => h) (Or.inl ⟨by rfl, ?_⟩) hS ?_
  · intro wq hq
    have dq0 := EC.out wq hq
    go_simp
  try simp only [Act.put, List.setIfInBounds_toArray, List.set_cons_zero, List.set_cons_succ, List.getElem_toArray, List.getElem_cons_zero, List.getElem_cons_succ]
  refine AnyTo.take (i := 1) (v := ?_) rfl (by kernel_rfl) (by kernel_rfl) (by kernel_rfl) (by kernel_rfl) (by kernel_rfl) (fun _ _ _ h => h) (Or.inl ⟨by rfl, ?_⟩) hS ?_
  rotate_left
  · (intro wq hq; go_simp; try with_reducible rfl)
  try simp only [Act.put, List.setIfInBounds_toArray, List.set_cons_zero, List.set_cons_succ, List.getElem_toArray, List.getElem_cons_zero, List.getElem_cons_succ]
  refine AnyTo.take (i := 2) (v := .slice A1 n1 c1) rfl (by kernel_rfl) (by kernel_rfl) (by kernel_rfl) (by kernel_rfl) (by kernel_rfl) (fun _ _ _ h => h) (Or.inl ⟨by rfl, ?_⟩) hS ?_
  · intro wq hq
    have dq0 := EX.out wq hq
    go_simp
  try simp only [Act.put, List.setIfInBounds_toArray, List.set_cons_zero, List.set_cons_succ, List.getElem_toArray, List.getElem_cons_zero, List.getElem_cons_succ]
  refine AnyTo.take (i := 3) (v := ?_) rfl (by kernel_rfl) (by kernel_rfl) (by kernel_rfl) (by kernel_rfl) (by kernel_rfl) (fun _ _ _ h => h) (Or.inl ⟨by rfl, ?_⟩) hS ?_
  rotate_left
  · (intro wq hq; go_simp; try with_reducible rfl)
  try simp only [Act.put, List.setIfInBounds_toArray, List.set_cons_zero, List.set_cons_succ, List.getElem_toArray, List.getElem_cons_zero, List.getElem_cons_succ]
  have HCa := HCd.out
  refine AnyTo.gone (i := 4) (by kernel_rfl) rfl (by rfl) (fun K hK => ?_)
  go_simp
  (with_reducible refine (KC1.out _).mono ?_)
  rintro e wc ⟨Ac, cc, rfl, hsr, hcc, hbc⟩
  have hS : SB Wd wc := SB.next (SB.refl Wd) hbc
  have HCa := HCa.next hbc
  dsimp only
  refine hK _ _ (fun _ => hS) ?_
  clear hK K
  try simp only [Act.put, List.setIfInBounds_toArray, List.set_cons_zero, List.set_cons_succ, List.getElem_toArray, List.getElem_cons_zero, List.getElem_cons_succ]
  refine AnyTo.gone (i := 5) (by kernel_rfl) rfl (by rfl) (fun K hK => ?_)
  refine wp_app (.tmp 13) (.tmp 17) rfl rfl B (.slice Av lv cv) L0.length (vbs L0) rfl HCa.ob Ac m1 cc (vbs (form n1)) rfl hsr hcc (by omega) HCa.hB ?_
  intro vb wa h1 h2
  obtain ⟨ca, fa, hC, Axb, lxb, cxb, rfl⟩ := CapV.app HCa h1 h2
  refine hK _ _ (fun h => absurd h (by decide)) ?_
  clear hK K
  try simp only [Act.put, List.setIfInBounds_toArray, List.set_cons_zero, List.set_cons_succ, List.getElem_toArray, List.getElem_cons_zero, List.getElem_cons_succ]
  refine AnyTo.gone (i := 6) (by kernel_rfl) rfl (by rfl) (fun K hK => ?_)
  go_simp
  refine hK _ _ (fun h => absurd h (by decide)) ?_
  clear hK K
  try simp only [Act.put, List.setIfInBounds_toArray, List.set_cons_zero, List.set_cons_succ, List.getElem_toArray, List.getElem_cons_zero, List.getElem_cons_succ]
  refine AnyTo.done (by kernel_rfl) ?_ _
  try dsimp only [Exit.then]
  generalize wa.setCell ⟨cb, 0, none⟩ (.slice Axb lxb cxb) = wb at hC ⊢
  clear ca fa h1 h2 HCa HCd EC
  clear EX hsr hcc hbc hS
  obtain ⟨Lb, hLb⟩ : ∃ M, M = L0 ++ form n1 := ⟨_, rfl⟩
  have hlLb : Lb.length ≤ 16 := by rw [hLb, List.length_append]; rw [← Hm1.out]; omega
  have HLb := Lib.hid hLb
  rw [← hLb] at hC
  clear hLb
  have KE := Lib.hid (ins_wr t.ins A1 n1 c1 B cb w1 wb _ Lb HE.out.1 HI1.out hn16 HZ.out.1 (by omega) hC)
  rw [← HXB.out] at KE
  have c1' := (HT.out wb hC.bel).1
  clear hC
  go_upto_region 6 with (go_at_call 69; (with_reducible refine KE.out.mono ?_); rintro e w5 ⟨rfl, v5, hC⟩; obtain ⟨A5, c5, rfl, _, _⟩ := slice_form hC.ob; dsimp only)
  clear KE c1'
  obtain ⟨Lc, hLc⟩ : ∃ M, M = Lb ++ XB := ⟨_, rfl⟩
  have hlLc : Lc.length ≤ 3300 := by rw [hLc, List.length_append]; omega
  have HLc := Lib.hid hLc
  rw [← hLc] at hC
  clear hLc
  generalize Lc.length = l5 at hC
  generalize hWd : w5.drew = Wd
  have hCd : CapV w1 B cb (.slice A5 l5 c5) Wd Lc := by rw [← hWd]; exact hC.drew
  have EC : Hid (∀ wq, SB Wd wq → wq.cell? ⟨cb, 0, none⟩ = some (.slice A5 l5 c5)) := fun wq hq => hq.cell (hCd.blk.cell rfl)
  have EX : Hid (∀ wq, SB Wd wq → wq.cell? ⟨w.heap.size, 2, none⟩ = some (.slice A2 n2 c2)) := fun wq hq => hq.cell (HT.out Wd hCd.bel).2.1
  have HCd := Lib.hid hCd
  clear hCd hC
  refine wp_region_to (z := 5) (SB Wd) (by kernel_rfl) ?_
  rw [hWd]
  have hS : SB Wd Wd := SB.refl Wd
  clear hWd
  refine AnyTo.take (i := 0) (v := (.slice A5 l5 c5)) rfl (by kernel_rfl) (by kernel_rfl) (by kernel_rfl) (by kernel_rfl) (by kernel_rfl) (fun _ _ _ h => h) (Or.inl ⟨by rfl, ?_⟩) hS ?_
  · intro wq hq
    have dq0 := EC.out wq hq
    go_simp
  try simp only [Act.put, List.setIfInBounds_toArray, List.set_cons_zero, List.set_cons_succ, List.getElem_toArray, List.getElem_cons_zero, List.getElem_cons_succ]
  refine AnyTo.take (i := 1) (v := ?_) rfl (by kernel_rfl) (by kernel_rfl) (by kernel_rfl) (by kernel_rfl) (by kernel_rfl) (fun _ _ _ h => h) (Or.inl ⟨by rfl, ?_⟩) hS ?_
  rotate_left
  · (intro wq hq; go_simp; try with_reducible rfl)
  try simp only [Act.put, List.setIfInBounds_toArray, List.set_cons_zero, List.set_cons_succ, List.getElem_toArray, List.getElem_cons_zero, List.getElem_cons_succ]
  refine AnyTo.take (i := 2) (v := .slice A2 n2 c2) rfl (by kernel_rfl) (by kernel_rfl) (by kernel_rfl) (by kernel_rfl) (by kernel_rfl) (fun _ _ _ h => h) (Or.inl ⟨by rfl, ?_⟩) hS ?_
  · intro wq hq
    have dq0 := EX.out wq hq
    go_simp
  try simp only [Act.put, List.setIfInBounds_toArray, List.set_cons_zero, List.set_cons_succ, List.getElem_toArray, List.getElem_cons_zero, List.getElem_cons_succ]
  refine AnyTo.take (i := 3) (v := ?_) rfl (by kernel_rfl) (by kernel_rfl) (by kernel_rfl) (by kernel_rfl) (by kernel_rfl) (fun _ _ _ h => h) (Or.inl ⟨by rfl, ?_⟩) hS ?_
  rotate_left
  · (intro wq hq; go_simp; try with_reducible rfl)
  try simp only [Act.put, List.setIfInBounds_toArray, List.set_cons_zero, List.set_cons_succ, List.getElem_toArray, List.getElem_cons_zero, List.getElem_cons_succ]
  have HCa := HCd.out
  refine AnyTo.gone (i := 4) (by kernel_rfl) rfl (by rfl) (fun K hK => ?_)
  go_simp
  (with_reducible refine (KC2.out _).mono ?_)
  rintro e wc ⟨Ac, cc, rfl, hsr, hcc, hbc⟩
  have hS : SB Wd wc := SB.next (SB.refl Wd) hbc
  have HCa := HCa.next hbc
  dsimp only
  refine hK _ _ (fun _ => hS) ?_
  clear hK K
  try simp only [Act.put, List.setIfInBounds_toArray, List.set_cons_zero, List.set_cons_succ, List.getElem_toArray, List.getElem_cons_zero, List.getElem_cons_succ]
  refine AnyTo.gone (i := 5) (by kernel_rfl) rfl (by rfl) (fun K hK => ?_)
  refine wp_app (.tmp 23) (.tmp 27) rfl rfl B (.slice A5 l5 c5) Lc.length (vbs Lc) rfl HCa.ob Ac m2 cc (vbs (form n2)) rfl hsr hcc (by omega) HCa.hB ?_
  intro vd wa h1 h2
  obtain ⟨ca, fa, hC, Axd, lxd, cxd, rfl⟩ := CapV.app HCa h1 h2
  refine hK _ _ (fun h => absurd h (by decide)) ?_
  clear hK K
  try simp only [Act.put, List.setIfInBounds_toArray, List.set_cons_zero, List.set_cons_succ, List.getElem_toArray, List.getElem_cons_zero, List.getElem_cons_succ]
  refine AnyTo.gone (i := 6) (by kernel_rfl) rfl (by rfl) (fun K hK => ?_)
  go_simp
  refine hK _ _ (fun h => absurd h (by decide)) ?_
  clear hK K
  try simp only [Act.put, List.setIfInBounds_toArray, List.set_cons_zero, List.set_cons_succ, List.getElem_toArray, List.getElem_cons_zero, List.getElem_cons_succ]
  refine AnyTo.done (by kernel_rfl) ?_ _
  try dsimp only [Exit.then]
  generalize wa.setCell ⟨cb, 0, none⟩ (.slice Axd lxd cxd) = wd at hC ⊢
  clear ca fa h1 h2 HCa HCd EC
  clear EX hsr hcc hbc hS
  obtain ⟨Ld, hLd⟩ : ∃ M, M = Lc ++ form n2 := ⟨_, rfl⟩
  have hlLd : Ld.length ≤ 3400 := by rw [hLd, List.length_append]; rw [← Hm2.out]; omega
  have HLd := Lib.hid hLd
  rw [← hLd] at hC
  clear hLd
  have KE := Lib.hid (outs_wr t.outs A2 n2 c2 B cb w1 wd _ Ld HE.out.2 HO1.out hn26 HZ.out.2.2 (by omega) hC)
  rw [← HYB.out] at KE
  have c2' := (HT.out wd hC.bel).2.1
  clear hC
  go_upto_region 8 with (go_at_call 72; (with_reducible refine KE.out.mono ?_); rintro e w6 ⟨rfl, v6, hC⟩; obtain ⟨A6, c6, rfl, _, _⟩ := slice_form hC.ob; dsimp only)
  clear KE c2'
  obtain ⟨Le, hLe⟩ : ∃ M, M = Ld ++ YB := ⟨_, rfl⟩
  have hlLe : Le.length ≤ 6700 := by rw [hLe, List.length_append]; omega
  have HLe := Lib.hid hLe
  rw [← hLe] at hC
  clear hLe
  generalize Le.length = l6 at hC
  go_upto_region 10 with fail
  generalize hWd : w6.drew = Wd
  have hCd : CapV w1 B cb (.slice A6 l6 c6) Wd Le := by rw [← hWd]; exact hC.drew
  have EC : Hid (∀ wq, SB Wd wq → wq.cell? ⟨cb, 0, none⟩ = some (.slice A6 l6 c6)) := fun wq hq => hq.cell (hCd.blk.cell rfl)
  have EX : Hid (∀ wq, SB Wd wq → wq.cell? ⟨w.heap.size, 3, none⟩ = some (.int .u32 (lock : Int))) := fun wq hq => hq.cell (HT.out Wd hCd.bel).2.2
  have HCd := Lib.hid hCd
  clear hCd hC
  refine wp_region_to (z := 5) (SB Wd) (by kernel_rfl) ?_
  rw [hWd]
  have hS : SB Wd Wd := SB.refl Wd
  clear hWd
  refine AnyTo.take (i := 0) (v := (.slice A6 l6 c6)) rfl (by kernel_rfl) (by kernel_rfl) (by kernel_rfl) (by kernel_rfl) (by kernel_rfl) (fun _ _ _ h => h) (Or.inl ⟨by rfl, ?_⟩) hS ?_
  · intro wq hq
    have dq0 := EC.out wq hq
    go_simp
  try simp only [Act.put, List.setIfInBounds_toArray, List.set_cons_zero, List.set_cons_succ, List.getElem_toArray, List.getElem_cons_zero, List.getElem_cons_succ]
  refine AnyTo.take (i := 1) (v := ?_) rfl (by kernel_rfl) (by kernel_rfl) (by kernel_rfl) (by kernel_rfl) (by kernel_rfl) (fun _ _ _ h => h) (Or.inl ⟨by rfl, ?_⟩) hS ?_
  rotate_left
  · (intro wq hq; go_simp; try with_reducible rfl)
  try simp only [Act.put, List.setIfInBounds_toArray, List.set_cons_zero, List.set_cons_succ, List.getElem_toArray, List.getElem_cons_zero, List.getElem_cons_succ]
  refine AnyTo.take (i := 2) (v := .int .u32 (lock : Int)) rfl (by kernel_rfl) (by kernel_rfl) (by kernel_rfl) (by kernel_rfl) (by kernel_rfl) (fun _ _ _ h => h) (Or.inl ⟨by rfl, ?_⟩) hS ?_
  · intro wq hq
    have dq0 := EX.out wq hq
    go_simp
  try simp only [Act.put, List.setIfInBounds_toArray, List.set_cons_zero, List.set_cons_succ, List.getElem_toArray, List.getElem_cons_zero, List.getElem_cons_succ]
  refine AnyTo.take (i := 3) (v := ?_) rfl (by kernel_rfl) (by kernel_rfl) (by kernel_rfl) (by kernel_rfl) (by kernel_rfl) (fun _ _ _ h => h) (Or.inl ⟨by rfl, ?_⟩) hS ?_
  rotate_left
  · (intro wq hq; go_simp; try with_reducible rfl)
  try simp only [Act.put, List.setIfInBounds_toArray, List.set_cons_zero, List.set_cons_succ, List.getElem_toArray, List.getElem_cons_zero, List.getElem_cons_succ]
  have HCa := HCd.out
  refine AnyTo.gone (i := 4) (by kernel_rfl) rfl (by rfl) (fun K hK => ?_)
  go_simp
  (with_reducible refine (KL.out _).mono ?_)
  rintro e wc ⟨Ac, cc, rfl, hsr, hcc, hbc⟩
  have hS : SB Wd wc := SB.next (SB.refl Wd) hbc
  have HCa := HCa.next hbc
  dsimp only
  refine hK _ _ (fun _ => hS) ?_
  clear hK K
  try simp only [Act.put, List.setIfInBounds_toArray, List.set_cons_zero, List.set_cons_succ, List.getElem_toArray, List.getElem_cons_zero, List.getElem_cons_succ]
  refine AnyTo.gone (i := 5) (by kernel_rfl) rfl (by rfl) (fun K hK => ?_)
  refine wp_app (.tmp 39) (.tmp 43) rfl rfl B (.slice A6 l6 c6) Le.length (vbs Le) rfl HCa.ob Ac 4 cc (vbs (les lock 4)) rfl hsr hcc (by omega) HCa.hB ?_
  intro vz wa h1 h2
  have hz := OB.app HCa.ob HCa.bel HCa.hB (Nat.le_refl _) (by rw [les_len]; exact h1) h2
  refine hK _ _ (fun h => absurd h (by decide)) ?_
  clear hK K
  try simp only [Act.put, List.setIfInBounds_toArray, List.set_cons_zero, List.set_cons_succ, List.getElem_toArray, List.getElem_cons_zero, List.getElem_cons_succ]
  refine AnyTo.gone (i := 6) (by kernel_rfl) rfl (by rfl) (fun K hK => ?_)
  go_simp
  refine hK _ _ (fun h => absurd h (by decide)) ?_
  clear hK K
  try simp only [Act.put, List.setIfInBounds_toArray, List.set_cons_zero, List.set_cons_succ, List.getElem_toArray, List.getElem_cons_zero, List.getElem_cons_succ]
  refine AnyTo.done (by kernel_rfl) ?_ _
  try dsimp only [Exit.then]
  have HZz := Lib.hid hz
  clear hz h1 h2 HCa HCd EC EX hsr hcc hbc hS
  go_wp2_with fail
  go_ret
  refine ⟨_, rfl, ?_, ?_⟩
  · rw [HLB.out]
    have e : les ver 4 ++ form n1 ++ XB ++ form n2 ++ YB ++ les lock 4 = Le ++ les lock 4 := by
      rw [HLe.out, HLd.out, HLc.out, HLb.out, HL0.out]
    rw [e]
    exact HZz.out.1.base (by omega)
  · exact Hb1.out.trans (Below.mono HZz.out.2 (by omega))
theorem written_any (t : TTx) (i o : Value) (full : Bool) (w : World) (h : TxOk w w.heap.size t i o) (hc : chk t = 0) : Calls Tryd.prog 48 #[txV t i o, .bool full] w (LaidPost (layB t full) w) := by
  cases full with
  | true => exact written_true t i o w h hc
  | false => exact written_false t i o w h hc
open Go.RowKit
set_option linter.unusedVariables false
set_option linter.unusedSimpArgs false
set_option maxRecDepth 100000
theorem int3 : Tryd.prog.underlying 3 = some (.int .i64) := by kernel_rfl
theorem run_grow (w : World) (n : Nat) (h0 : 0 < n) (hn : n ≤ 100000000) : ∃ C G, (Builtin.append_ #[27, 3] 27 #[.slice none 0 0, .int .i64 (n : Int)]).run Tryd.prog w = .ok (.slice (some ⟨w.heap.size, 0, none⟩) n G) (w.drew.alloc (.cells C 5)) ∧
    OB (w.drew.alloc (.cells C 5)) w.heap.size (.slice (some ⟨w.heap.size, 0, none⟩) 0 G) [] ∧ n ≤ G ∧ G ≤ 9223372036854775807 := by
  obtain ⟨i0, hi, hz0, hz1, hz2⟩ := info_parts info5
  have hr := Lib.run_append_nil_zeros (P := Tryd.prog) w 27 3 27 5 i0 (.int .u8 0) .i64 .i64 Tryd.underlying27 int3 hi hz0 n h0 (by omega) (by omega) (by rw [hz2]; omega)
  refine ⟨_, _, hr, ?_, grownCap_ge w n 0 5, by have := grownCap_le_maxLen w n 0 5 (by unfold maxLen; omega); unfold maxLen at this; omega⟩
  have hge := grownCap_ge w n 0 5
  have hcm := grownCap_le_maxLen w n 0 5 (by unfold maxLen; omega)
  generalize grownCap w n 0 5 = G at hge hcm ⊢
  refine ⟨rfl, .inr ⟨w.heap.size, G, _, rfl, Nat.le_refl _, heap_alloc_new w.drew _, by simp, hcm, ?_, ?_⟩⟩
  · simp [size_zeroCells, Value.cells]; omega
  · simp [vbs]
set_option maxHeartbeats 4000000 in
theorem grow_any (n : Nat) (hn : n ≤ 100000000) (w : World) : Calls Tryd.prog 66 #[.slice none 0 0, .int .i64 (n : Int)] w (LaidPost [] w) := by
  by_cases h0 : 0 < n
  · obtain ⟨C, G, hr, ho, hg, hg2⟩ := run_grow w n h0 hn
    have HR := Lib.hid hr
    have HO := Lib.hid ho
    have h1 : (0 : Int) < (n : Int) := by omega
    have h2 : ¬ (n : Int) < 0 := by omega
    have hb : Hid (Below w.heap.size w (w.drew.alloc (.cells C 5))) := ((Below.refl w.heap.size w).drew).alloc (by simp) _
    clear hr ho
    go_enter Tryd.func66, Tryd.ntmps66
    go_wp2_with (refine Lib.wpList_append_run (o := ⟨some 22, _, _, _, _, _⟩) _ rfl (.tmp 20) (.tmp 21) 27 3 rfl (.slice none 0 0) (.int .i64 (n : Int)) rfl rfl _ _ HR.out ?_)
    go_ret
    exact ⟨_, rfl, HO.out, hb.out⟩
  · obtain rfl : n = 0 := by omega
    have hb : Hid (Below w.heap.size w w) := Below.refl _ _
    show Calls Tryd.prog 66 #[.slice none 0 0, .int .i64 0] w (LaidPost [] w)
    go_enter Tryd.func66, Tryd.ntmps66
    go_wp2_with fail
    go_ret
    exact ⟨_, rfl, OB.nil _ _, hb.out⟩
set_option maxHeartbeats 4000000 in
theorem concat_any (Ls : List (List (BitVec 8))) (v : Value) (w : World) (h : Ws w w.heap.size v Ls) (hn1 : Ls.length ≤ 100) (hl : ∀ L ∈ Ls, L.length ≤ 100000) :
    Calls Tryd.prog 47 #[v] w (LaidPost Ls.flatten w) := by
  obtain ⟨A, cap, b, o, rfl, hA, hj⟩ := Row.open h
  obtain ⟨n, hn⟩ : ∃ n, n = Ls.length := ⟨_, rfl⟩
  have hbd : ∀ i, i ≤ n → (Ls.take i).flatten.length ≤ i * 100000 := fun i hi => by
    have := flat_le (fun x => x) 100000 (Ls.take i) (take_sub hl)
    rw [List.map_id'] at this
    rw [List.length_take, Nat.min_eq_left (by omega)] at this
    exact this
  have hsucc : ∀ i, i < n → (Ls.take (i + 1)).flatten = (Ls.take i).flatten ++ Ls.getD i [] := fun i hi => by
    have := flat_succ (fun x => x) Ls [] i (by omega)
    simpa using this
  have hJ : Hid (∀ i, i < n → ∃ Ai ci, A = some ⟨b, o, none⟩ ∧ b < w.heap.size ∧ w.cell? ⟨b, o + i, none⟩ = some (.slice Ai (Ls.getD i []).length ci) ∧ Rd w w.heap.size Ai (Ls.getD i []) ∧ (Ai = none → ci = 0)) := fun i hi => by
    obtain ⟨hlt, u, hc, Ai, ci, rfl, hrd, _, _, hcn⟩ := hj i (by omega)
    rw [Nat.mul_one] at hc
    exact ⟨Ai, ci, hA (by omega), hlt, hc, hrd, hcn⟩
  have HBd := Lib.hid hbd
  have HSu := Lib.hid hsucc
  have Hn := Lib.hid hn
  have hn100 : n ≤ 100 := by omega
  have KG := Lib.hid grow_any
  have HF : Hid ((Ls.take n).flatten = Ls.flatten) := show (Ls.take n).flatten = Ls.flatten by rw [List.take_of_length_le (by omega)]
  rw [← hn]
  clear h hA hj hbd hsucc hn hl hn1
  go_enter Tryd.func47, Tryd.ntmps47
  go_wp2_with fail
  go_loopw [3, 11] (fun sv iv wq => ∃ i : Nat, i ≤ n ∧ iv = .int .i64 (i : Int) ∧ sv = .int .i64 (((Ls.take i).flatten.length : Nat) : Int) ∧ wq = w) (fun _ iv _ => n - (intOf iv).toNat)
  case atStart => exact ⟨0, Nat.zero_le _, rfl, rfl, rfl⟩
  case round =>
    obtain ⟨i, hi, rfl, rfl, hw⟩ := hrel
    have hw' := hw.symm
    subst hw'
    clear hw
    by_cases hlt : i < n
    · have hlt' : (i : Int) < (n : Int) := by omega
      obtain ⟨Ai, ci, rfl, hbl, hc, _, _⟩ := hJ.out i hlt
      have hb1 := HBd.out i hi
      have hb2 := HBd.out (i + 1) hlt
      have hs := HSu.out i hlt
      have hs2 : (Ls.take (i + 1)).flatten.length = (Ls.take i).flatten.length + (Ls.getD i []).length := by rw [hs, List.length_append]
      obtain ⟨a, ha⟩ : ∃ a, a = (Ls.take i).flatten.length := ⟨_, rfl⟩
      obtain ⟨l, hl⟩ : ∃ l, l = (Ls.getD i []).length := ⟨_, rfl⟩
      obtain ⟨a2, ha2⟩ : ∃ a, a = (Ls.take (i + 1)).flatten.length := ⟨_, rfl⟩
      rw [← ha] at hb1 hs2 ⊢
      rw [← hl] at hs2 hc
      rw [← ha2] at hb2 hs2
      have hsum : (a : Int) + (l : Int) = (a2 : Int) := by omega
      have hng : ¬ (a2 : Int) < 0 := by omega
      have ha2l : a2 ≤ 10100000 := by omega
      have Ha2 := Lib.hid ha2
      clear hs hs2 ha hl ha2
      go_wp2_with fail
      go_roundw
      case rel => exact ⟨i + 1, by omega, by go_num, by rw [← Ha2.out], by first | trivial | rfl⟩
      case measure => simp [intOf]; omega
    · obtain rfl : i = n := by omega
      have hlt' : ¬ (i : Int) < (i : Int) := by omega
      have hb1 := HBd.out i (Nat.le_refl _)
      have K := Lib.hid (KG.out (Ls.take i).flatten.length (by omega) w)
      obtain ⟨a, ha⟩ : ∃ a, a = (Ls.take i).flatten.length := ⟨_, rfl⟩
      rw [← ha] at K ⊢
      clear ha hb1 KG
      go_wp2_with (go_at_call 66; (refine K.out.mono ?_); rintro e w1 ⟨v1, rfl, ho1, hb1⟩; dsimp only)
      go_loopw [6, 27] (fun vv iv wq => ∃ j : Nat, j ≤ i ∧ iv = .int .i64 (j : Int) ∧ OB wq w.heap.size vv (Ls.take j).flatten ∧ Below w.heap.size w wq) (fun _ iv _ => i - (intOf iv).toNat)
      case atStart => exact ⟨0, Nat.zero_le _, rfl, ho1, hb1⟩
      case round =>
        clear ho1 hb1 K
        obtain ⟨j, hj, rfl, ho, hb⟩ := hrel
        by_cases hjt : j < i
        · have hjt' : (j : Int) < (i : Int) := by omega
          obtain ⟨Ai, ci, rfl, hbl, hc, hrd, hcn⟩ := hJ.out j hjt
          have c0 : wr.cell? ⟨b, o + j, none⟩ = some (.slice Ai (Ls.getD j []).length ci) := by rw [hb.cell (p := ⟨b, o + j, none⟩) hbl]; exact hc
          have hbd := HBd.out j hj
          have hbd2 := HBd.out (j + 1) hjt
          have hs := HSu.out j hjt
          have hs2 : (Ls.take (j + 1)).flatten.length = (Ls.take j).flatten.length + (Ls.getD j []).length := by rw [hs, List.length_append]
          obtain ⟨X, hX⟩ : ∃ X, X = (Ls.take j).flatten := ⟨_, rfl⟩
          obtain ⟨Y, hY⟩ : ∃ Y, Y = Ls.getD j [] := ⟨_, rfl⟩
          rw [← hX] at ho hbd hs hs2
          rw [← hY] at c0 hrd hs hs2
          obtain ⟨l, hl⟩ : ∃ l, l = Y.length := ⟨_, rfl⟩
          have HSr : Hid (Src22 wr Ai l (vbs Y)) := show Src22 wr Ai l (vbs Y) by rw [hl]; exact src_of_rd (hrd.keep hb)
          have Hsr2 : Hid (Src22 wr Ai Y.length (vbs Y)) := show Src22 wr Ai Y.length (vbs Y) from src_of_rd (hrd.keep hb)
          have HLe : Hid (X.length + Y.length ≤ 140737488355328) := show X.length + Y.length ≤ 140737488355328 by omega
          have HO := Lib.hid ho
          have HB := Lib.hid hb
          have Hs := Lib.hid hs
          have Hl := Lib.hid hl
          have Hcn := Lib.hid hcn
          rw [← hl] at c0
          clear hc hrd hbd hbd2 hs hs2 hX hY hl ho hb hbl hcn
          go_wp2_with (refine wpList_push (o := ⟨some 33, _, _, _, _, _⟩) rfl (.tmp 31) (.tmp 32) rfl rfl w.heap.size _ X Y rfl HO.out Ai l ci rfl Hl.out Hsr2.out Hcn.out HLe.out HB.out HB.out.size (Nat.le_refl _) ?_; intro v3 w3 h1 h2 h3)
          go_roundw
          case rel => exact ⟨j + 1, by omega, by go_num, by rw [Hs.out]; exact h1, h2⟩
          case measure => simp [intOf]; omega
        · obtain rfl : j = i := by omega
          have hjt' : ¬ (j : Int) < (j : Int) := by omega
          rw [HF.out] at ho
          have HO := Lib.hid ho
          have HB := Lib.hid hb
          clear ho hb
          go_wp2_with fail
          go_ret
          exact ⟨_, rfl, HO.out, HB.out⟩
open Go.RowKit
set_option linter.unusedVariables false
set_option linter.unusedSimpArgs false
set_option maxRecDepth 100000
/-- A new slice with the bytes X, and nought, are told. -/
def GavePost (X : List (BitVec 8)) (w : World) (e : Ending) (w' : World) : Prop :=
  ∃ A c, e = .returned (.tuple #[.slice A X.length c, .int .i64 0]) ∧ OB w' w.heap.size (.slice A X.length c) X ∧ Below w.heap.size w w'
/-- No bytes are told, and why. -/
def NonePost (c : Int) (w : World) (e : Ending) (w' : World) : Prop :=
  e = .returned (.tuple #[.slice none 0 0, .int .i64 c]) ∧ Below w.heap.size w w'
theorem lay_len {t : TTx} {i o : Value} {w : World} (full : Bool) (h : TxOk w w.heap.size t i o) (hc : chk t = 0) : (layB t full).length ≤ 100000 := by
  obtain ⟨z1, z2, z3, z4, z5, _, _⟩ := chk_zero hc
  have h1 : (t.ins.map inB).flatten.length ≤ 3200 := by
    obtain ⟨_, _, b, o, _, _, hj⟩ := Row.open h.1
    have := flat_le inB 200 t.ins fun x hx => by
      obtain ⟨k, hk, rfl⟩ := List.getElem_of_mem hx
      obtain ⟨_, s, u, _, _, _, h32, _, _⟩ := hj k hk
      have e : t.ins.getD k In0 = t.ins[k] := by simp [List.getD, hk]
      rw [e] at h32
      exact inB_le (z3 _ hx) h32
    omega
  have h2 := flat_le outB 200 t.outs fun x hx => outB_le (z5 x hx)
  have h3 : (witsB t.ins).length ≤ 32000 := by
    have := flat_le witB 2000 t.ins (witB_le z4)
    unfold witsB
    omega
  have h4 := form_len9 t.ins.length
  have h5 := form_len9 t.outs.length
  unfold layB
  generalize (t.ins.map inB).flatten = XB at h1 ⊢
  generalize (t.outs.map outB).flatten = YB at h2 ⊢
  generalize witsB t.ins = WB at h3 ⊢
  cases full
  · rw [if_neg (by decide), if_neg (by decide)]
    simp only [List.length_append, les_len, List.length_nil]
    omega
  · rw [if_pos rfl, if_pos rfl]
    simp only [List.length_append, les_len, List.length_cons, List.length_nil]
    omega
theorem two_ws {w : World} {B g : Nat} {v1 v2 : Value} {X Y : List (BitVec 8)} (hb : Blk w g 27 [v1, v2]) (hg : g < B) (h1 : Sl w B v1 X) (h2 : Sl w B v2 Y) : Ws w B (.slice (some ⟨g, 0, none⟩) 2 2) [X, Y] := by
  refine ⟨_, 2, rfl, Nat.le_refl _, by omega, fun _ => ⟨g, 0, rfl, hg, fun j hj => ?_⟩⟩
  have : j = 0 ∨ j = 1 := by simp at hj; omega
  rcases this with rfl | rfl
  · exact ⟨v1, hb.cell rfl, h1⟩
  · exact ⟨v2, hb.cell rfl, h2⟩
theorem OB.sl {w : World} {B B' : Nat} {v : Value} {L : List (BitVec 8)} (h : OB w B v L) (hB : w.heap.size ≤ B') : Sl w B' v L := by
  obtain ⟨A, c, e, hr, h1, h2, h3⟩ := h.rd
  exact ⟨A, c, e, hr.up hB, h1, h2, h3⟩
set_option maxHeartbeats 4000000 in
theorem put_ok (t : TTx) (i o b : Value) (L : List (BitVec 8)) (full : Bool) (w : World) (h : TxOk w w.heap.size t i o) (hL : Sl w w.heap.size b L) (hl : L.length ≤ 100000) (hc : chk t = 0) :
    Calls Tryd.prog 28 #[b, txV t i o, .bool full] w (GavePost (L ++ layB t full) w) := by
  have h' := h
  have hlen := lay_len full h hc
  obtain ⟨⟨A1, c1, rfl, _, _, _⟩, ⟨A2, c2, rfl, _, _, _⟩, _, _⟩ := h
  obtain ⟨n1, hn1⟩ : ∃ n, n = t.ins.length := ⟨_, rfl⟩
  obtain ⟨n2, hn2⟩ : ∃ n, n = t.outs.length := ⟨_, rfl⟩
  obtain ⟨ver, hv⟩ : ∃ n, n = t.ver := ⟨_, rfl⟩
  obtain ⟨lock, hlk⟩ : ∃ n, n = t.lock := ⟨_, rfl⟩
  have K47 : Hid (∀ wq, Below w.heap.size w wq → Calls Tryd.prog 12 #[.agg #[.int .u32 (ver : Int), .slice A1 n1 c1, .slice A2 n2 c2, .int .u32 (lock : Int)]] wq (IntPost 0 wq)) := fun wq hq => by
    have := check_any t _ _ wq ((h'.keep hq (Nat.le_refl _)).up hq.size)
    rw [hc] at this
    unfold txV at this
    rw [← hv, ← hlk, ← hn1, ← hn2] at this
    exact this
  obtain ⟨X, hX⟩ : ∃ X, X = layB t full := ⟨_, rfl⟩
  have K49 : Hid (∀ wq, Below w.heap.size w wq → Calls Tryd.prog 48 #[.agg #[.int .u32 (ver : Int), .slice A1 n1 c1, .slice A2 n2 c2, .int .u32 (lock : Int)], .bool full] wq (LaidPost X wq)) := fun wq hq => by
    have := written_any t _ _ full wq ((h'.keep hq (Nat.le_refl _)).up hq.size) hc
    unfold txV at this
    rw [← hv, ← hlk, ← hn1, ← hn2, ← hX] at this
    exact this
  have HB : Hid (Below w.heap.size w (w.alloc (.cells #[.int .u32 (ver : Int), .slice A1 n1 c1, .slice A2 n2 c2, .int .u32 (lock : Int)] 26))) := (Below.refl _ _).alloc (Nat.le_refl _) _
  have HLs := Lib.hid hL
  obtain ⟨Ab, cb, rfl, _⟩ := hL
  obtain ⟨lb, hlb⟩ : ∃ l, l = L.length := ⟨_, rfl⟩
  rw [← hlb] at HLs ⊢
  have Hlb := Lib.hid hlb
  rw [← hX] at hlen
  unfold txV
  rw [← hv, ← hlk, ← hn1, ← hn2, ← hX]
  clear h' hc hn1 hn2 hv hlk hX hlb
  go_enter Tryd.func28, Tryd.ntmps28
  go_wp2_with (first
    | (go_at_call 12; (with_reducible refine (K47.out _ HB.out).mono ?_); rintro e w2 ⟨rfl, hb2⟩; have HB2 : Hid (Below w.heap.size w w2) := HB.out.trans (hb2.mono HB.out.size); have d0 : w2.cell? ⟨w.heap.size, 0, none⟩ = some (.int .u32 (ver : Int)) := (by rw [hb2.cell (p := ⟨w.heap.size, 0, none⟩) (by simp)]; exact cell_new rfl rfl); have d1 : w2.cell? ⟨w.heap.size, 1, none⟩ = some (.slice A1 n1 c1) := (by rw [hb2.cell (p := ⟨w.heap.size, 1, none⟩) (by simp)]; exact cell_new rfl rfl); have d2 : w2.cell? ⟨w.heap.size, 2, none⟩ = some (.slice A2 n2 c2) := (by rw [hb2.cell (p := ⟨w.heap.size, 2, none⟩) (by simp)]; exact cell_new rfl rfl); have d3 : w2.cell? ⟨w.heap.size, 3, none⟩ = some (.int .u32 (lock : Int)) := (by rw [hb2.cell (p := ⟨w.heap.size, 3, none⟩) (by simp)]; exact cell_new rfl rfl); clear hb2; dsimp only)
    | (go_at_call 48; (with_reducible refine (K49.out _ HB2.out).mono ?_); rintro e w3 ⟨v3, rfl, ho3, hb3⟩; obtain ⟨A3, c3, rfl, _, _⟩ := slice_form ho3; have HB3 : Hid (Below w.heap.size w w3) := HB2.out.trans (hb3.mono HB2.out.size); have HO3 := Lib.hid ho3; clear hb3 ho3; dsimp only)
    | (go_at_call 47; (with_reducible refine (concat_any [L, X] _ _ (two_ws (Blk.new w3 27 #[.slice Ab lb cb, .slice A3 X.length c3]) (by simp) ((HLs.out.keep (HB3.out.alloc HB3.out.size _) (Nat.le_refl _)).up (Nat.le_trans HB3.out.size (by simp))) ((HO3.out.alloc _).sl (Nat.le_refl _))) (by simp) (by intro M hM; simp at hM; rcases hM with rfl | rfl <;> omega)).mono ?_); rintro e w4 ⟨v4, rfl, ho4, hb4⟩; obtain ⟨A4, c4, rfl, _, _⟩ := slice_form ho4; have HO4 := Lib.hid ho4; have HB4 : Hid (Below w.heap.size w w4) := (HB3.out.alloc HB3.out.size _).trans (hb4.mono (Nat.le_trans HB3.out.size (by simp))); clear ho4 hb4; dsimp only))
  go_ret2
  have e : ([L, X] : List (List (BitVec 8))).flatten = L ++ X := by simp
  have hO := HO4.out
  have hBs := HB3.out.size
  rw [e] at hO
  exact ⟨A4, c4, by rw [List.length_append]; rfl, hO.base (by simp; omega), HB4.out⟩
set_option maxHeartbeats 4000000 in
theorem put_no (t : TTx) (i o b : Value) (full : Bool) (w : World) (h : TxOk w w.heap.size t i o) (hc : chk t ≠ 0) :
    Calls Tryd.prog 28 #[b, txV t i o, .bool full] w (NonePost (chk t) w) := by
  have h' := h
  obtain ⟨⟨A1, c1, rfl, _, _, _⟩, ⟨A2, c2, rfl, _, _, _⟩, _, _⟩ := h
  obtain ⟨n1, hn1⟩ : ∃ n, n = t.ins.length := ⟨_, rfl⟩
  obtain ⟨n2, hn2⟩ : ∃ n, n = t.outs.length := ⟨_, rfl⟩
  obtain ⟨ver, hv⟩ : ∃ n, n = t.ver := ⟨_, rfl⟩
  obtain ⟨lock, hlk⟩ : ∃ n, n = t.lock := ⟨_, rfl⟩
  obtain ⟨c, hcc⟩ : ∃ c, c = chk t := ⟨_, rfl⟩
  have K47 : Hid (∀ wq, Below w.heap.size w wq → Calls Tryd.prog 12 #[.agg #[.int .u32 (ver : Int), .slice A1 n1 c1, .slice A2 n2 c2, .int .u32 (lock : Int)]] wq (IntPost c wq)) := fun wq hq => by
    have := check_any t _ _ wq ((h'.keep hq (Nat.le_refl _)).up hq.size)
    rw [← hcc] at this
    unfold txV at this
    rw [← hv, ← hlk, ← hn1, ← hn2] at this
    exact this
  have HB : Hid (Below w.heap.size w (w.alloc (.cells #[.int .u32 (ver : Int), .slice A1 n1 c1, .slice A2 n2 c2, .int .u32 (lock : Int)] 26))) := (Below.refl _ _).alloc (Nat.le_refl _) _
  have hne : (c != 0) = true := by rw [hcc]; simpa using hc
  unfold txV
  rw [← hv, ← hlk, ← hn1, ← hn2, ← hcc]
  clear h' hc hn1 hn2 hv hlk hcc
  go_enter Tryd.func28, Tryd.ntmps28
  go_wp2_with (go_at_call 12; (with_reducible refine (K47.out _ HB.out).mono ?_); rintro e w2 ⟨rfl, hb2⟩; dsimp only)
  go_ret2
  exact ⟨rfl, HB.out.trans (hb2.mono HB.out.size)⟩
set_option maxHeartbeats 4000000 in
theorem Put_ok (t : TTx) (i o b : Value) (L : List (BitVec 8)) (w : World) (h : TxOk w w.heap.size t i o) (hL : Sl w w.heap.size b L) (hl : L.length ≤ 100000) (hc : chk t = 0) :
    Calls Tryd.prog 8 #[b, txV t i o] w (GavePost (L ++ layB t (witd t)) w) := by
  have h' := h
  obtain ⟨⟨A1, c1, rfl, _, _, _⟩, ⟨A2, c2, rfl, _, _, _⟩, _, _⟩ := h
  obtain ⟨n1, hn1⟩ : ∃ n, n = t.ins.length := ⟨_, rfl⟩
  obtain ⟨n2, hn2⟩ : ∃ n, n = t.outs.length := ⟨_, rfl⟩
  obtain ⟨ver, hv⟩ : ∃ n, n = t.ver := ⟨_, rfl⟩
  obtain ⟨lock, hlk⟩ : ∃ n, n = t.lock := ⟨_, rfl⟩
  obtain ⟨f, hf⟩ : ∃ f, f = witd t := ⟨_, rfl⟩
  have K35 : Hid (∀ wq, Below w.heap.size w wq → Calls Tryd.prog 14 #[.agg #[.int .u32 (ver : Int), .slice A1 n1 c1, .slice A2 n2 c2, .int .u32 (lock : Int)]] wq (BoolPost f wq)) := fun wq hq => by
    have := witnessed_any t _ _ wq ((h'.keep hq (Nat.le_refl _)).up hq.size)
    unfold txV at this
    rw [← hv, ← hlk, ← hn1, ← hn2, ← hf] at this
    exact this
  obtain ⟨X, hX⟩ : ∃ X, X = L ++ layB t (witd t) := ⟨_, rfl⟩
  have K34 : Hid (∀ wq, Below w.heap.size w wq → Calls Tryd.prog 28 #[b, .agg #[.int .u32 (ver : Int), .slice A1 n1 c1, .slice A2 n2 c2, .int .u32 (lock : Int)], .bool f] wq (GavePost X wq)) := fun wq hq => by
    have := put_ok t _ _ b L (witd t) wq ((h'.keep hq (Nat.le_refl _)).up hq.size) ((hL.keep hq (Nat.le_refl _)).up hq.size) hl hc
    unfold txV at this
    rw [← hv, ← hlk, ← hn1, ← hn2, ← hX, ← hf] at this
    exact this
  have HB : Hid (Below w.heap.size w (w.alloc (.cells #[.int .u32 (ver : Int), .slice A1 n1 c1, .slice A2 n2 c2, .int .u32 (lock : Int)] 26)).drew) := ((Below.refl w.heap.size w).alloc (Nat.le_refl _) _).drew
  have E0 : Hid (∀ wq, SB (w.alloc (.cells #[.int .u32 (ver : Int), .slice A1 n1 c1, .slice A2 n2 c2, .int .u32 (lock : Int)] 26)).drew wq → wq.cell? ⟨w.heap.size, 0, none⟩ = some (.int .u32 (ver : Int)) ∧ wq.cell? ⟨w.heap.size, 1, none⟩ = some (.slice A1 n1 c1) ∧ wq.cell? ⟨w.heap.size, 2, none⟩ = some (.slice A2 n2 c2) ∧ wq.cell? ⟨w.heap.size, 3, none⟩ = some (.int .u32 (lock : Int))) := fun wq hq =>
    ⟨hq.cell (cell_new (w := w) rfl rfl), hq.cell (cell_new (w := w) rfl rfl), hq.cell (cell_new (w := w) rfl rfl), hq.cell (cell_new (w := w) rfl rfl)⟩
  unfold txV
  rw [← hv, ← hlk, ← hn1, ← hn2, ← hX]
  clear h' hn1 hn2 hv hlk hf hX hc hL
  go_enter Tryd.func8, Tryd.ntmps8
  go_upto_region 1 with fail
  generalize hWd : (w.alloc (.cells #[.int .u32 (ver : Int), .slice A1 n1 c1, .slice A2 n2 c2, .int .u32 (lock : Int)] 26)).drew = Wd
  rw [hWd] at HB E0
  refine wp_region_but (z := 999) (SB Wd) (by kernel_rfl) ?_
  rw [hWd]
  have hS : SB Wd Wd := SB.refl Wd
  clear hWd
  refine AnyBut.takeE (i := 0) (v := ?_) rfl (by kernel_rfl) (by kernel_rfl) (by kernel_rfl) (by kernel_rfl) (fun _ _ _ h => h) (Or.inl ⟨by rfl, ?_⟩) hS ?_
  rotate_left
  · (intro wq hq; go_simp; try with_reducible rfl)
  try simp only [Act.put, List.setIfInBounds_toArray, List.set_cons_zero, List.set_cons_succ, List.getElem_toArray, List.getElem_cons_zero, List.getElem_cons_succ]
  refine AnyBut.takeE (i := 1) (v := .agg #[.int .u32 (ver : Int), .slice A1 n1 c1, .slice A2 n2 c2, .int .u32 (lock : Int)]) rfl (by kernel_rfl) (by kernel_rfl) (by kernel_rfl) (by kernel_rfl) (fun _ _ _ h => h) (Or.inl ⟨by rfl, ?_⟩) hS ?_
  · intro wq hq
    obtain ⟨dq0, dq1, dq2, dq3⟩ := E0.out wq hq
    go_simp
  try simp only [Act.put, List.setIfInBounds_toArray, List.set_cons_zero, List.set_cons_succ, List.getElem_toArray, List.getElem_cons_zero, List.getElem_cons_succ]
  refine AnyBut.takeE (i := 2) (v := .agg #[.int .u32 (ver : Int), .slice A1 n1 c1, .slice A2 n2 c2, .int .u32 (lock : Int)]) rfl (by kernel_rfl) (by kernel_rfl) (by kernel_rfl) (by kernel_rfl) (fun _ _ _ h => h) (Or.inl ⟨by rfl, ?_⟩) hS ?_
  · intro wq hq
    obtain ⟨dq0, dq1, dq2, dq3⟩ := E0.out wq hq
    go_simp
  try simp only [Act.put, List.setIfInBounds_toArray, List.set_cons_zero, List.set_cons_succ, List.getElem_toArray, List.getElem_cons_zero, List.getElem_cons_succ]
  refine AnyBut.gone (i := 3) (by kernel_rfl) rfl (by rfl) (fun K hK => ?_)
  go_simp
  (with_reducible refine (K35.out _ HB.out).mono ?_)
  rintro e w3 ⟨rfl, hb3⟩
  have hS : SB Wd w3 := SB.next hS hb3
  have HB3 : Hid (Below w.heap.size w w3) := HB.out.trans (hb3.mono HB.out.size)
  clear hb3
  dsimp only
  refine hK _ _ (fun _ => hS) ?_
  clear hK K
  try simp only [Act.put, List.setIfInBounds_toArray, List.set_cons_zero, List.set_cons_succ, List.getElem_toArray, List.getElem_cons_zero, List.getElem_cons_succ]
  refine AnyBut.gone (i := 4) (by kernel_rfl) rfl (by rfl) (fun K hK => ?_)
  go_simp
  (with_reducible refine (K34.out _ HB3.out).mono ?_)
  rintro e w4 ⟨A4, c4, rfl, ho4, hb4⟩
  have hS : SB Wd w4 := SB.next hS hb4
  have HB4 : Hid (Below w.heap.size w w4) := HB3.out.trans (hb4.mono HB3.out.size)
  have HO4 := Lib.hid ho4
  clear ho4 hb4
  dsimp only
  refine hK _ _ (fun _ => hS) ?_
  clear hK K
  try simp only [Act.put, List.setIfInBounds_toArray, List.set_cons_zero, List.set_cons_succ, List.getElem_toArray, List.getElem_cons_zero, List.getElem_cons_succ]
  refine AnyBut.takeE (i := 5) (v := ?_) rfl (by kernel_rfl) (by kernel_rfl) (by kernel_rfl) (by kernel_rfl) (fun _ _ _ h => h) (Or.inl ⟨by rfl, ?_⟩) hS ?_
  rotate_left
  · (intro wq hq; go_simp; try with_reducible rfl)
  try simp only [Act.put, List.setIfInBounds_toArray, List.set_cons_zero, List.set_cons_succ, List.getElem_toArray, List.getElem_cons_zero, List.getElem_cons_succ]
  refine AnyBut.takeE (i := 6) (v := ?_) rfl (by kernel_rfl) (by kernel_rfl) (by kernel_rfl) (by kernel_rfl) (fun _ _ _ h => h) (Or.inl ⟨by rfl, ?_⟩) hS ?_
  rotate_left
  · (intro wq hq; go_simp; try with_reducible rfl)
  try simp only [Act.put, List.setIfInBounds_toArray, List.set_cons_zero, List.set_cons_succ, List.getElem_toArray, List.getElem_cons_zero, List.getElem_cons_succ]
  refine AnyBut.takeE (i := 7) (v := ?_) rfl (by kernel_rfl) (by kernel_rfl) (by kernel_rfl) (by kernel_rfl) (fun _ _ _ h => h) (Or.inl ⟨by rfl, ?_⟩) hS ?_
  rotate_left
  · (intro wq hq; go_simp; try with_reducible rfl)
  try simp only [Act.put, List.setIfInBounds_toArray, List.set_cons_zero, List.set_cons_succ, List.getElem_toArray, List.getElem_cons_zero, List.getElem_cons_succ]
  refine AnyBut.gone (i := 8) (by kernel_rfl) rfl (by rfl) (fun K hK => ?_)
  go_simp
  refine hK _ _ (fun _ => hS) ?_
  clear hK K
  refine AnyBut.done (by kernel_rfl) ?_ _
  dsimp only [Exit.then]
  have hBs := HB3.out.size
  clear hS
  go_wp2_with fail
  go_ret2
  exact ⟨A4, c4, rfl, HO4.out.base hBs, HB4.out⟩
set_option maxHeartbeats 4000000 in
theorem Put_no (t : TTx) (i o b : Value)  (w : World) (h : TxOk w w.heap.size t i o) (hc : chk t ≠ 0) :
    Calls Tryd.prog 8 #[b, txV t i o] w (NonePost (chk t) w) := by
  have h' := h
  obtain ⟨⟨A1, c1, rfl, _, _, _⟩, ⟨A2, c2, rfl, _, _, _⟩, _, _⟩ := h
  obtain ⟨n1, hn1⟩ : ∃ n, n = t.ins.length := ⟨_, rfl⟩
  obtain ⟨n2, hn2⟩ : ∃ n, n = t.outs.length := ⟨_, rfl⟩
  obtain ⟨ver, hv⟩ : ∃ n, n = t.ver := ⟨_, rfl⟩
  obtain ⟨lock, hlk⟩ : ∃ n, n = t.lock := ⟨_, rfl⟩
  obtain ⟨f, hf⟩ : ∃ f, f = witd t := ⟨_, rfl⟩
  have K35 : Hid (∀ wq, Below w.heap.size w wq → Calls Tryd.prog 14 #[.agg #[.int .u32 (ver : Int), .slice A1 n1 c1, .slice A2 n2 c2, .int .u32 (lock : Int)]] wq (BoolPost f wq)) := fun wq hq => by
    have := witnessed_any t _ _ wq ((h'.keep hq (Nat.le_refl _)).up hq.size)
    unfold txV at this
    rw [← hv, ← hlk, ← hn1, ← hn2, ← hf] at this
    exact this
  obtain ⟨c, hcc⟩ : ∃ c, c = chk t := ⟨_, rfl⟩
  have K34 : Hid (∀ wq, Below w.heap.size w wq → Calls Tryd.prog 28 #[b, .agg #[.int .u32 (ver : Int), .slice A1 n1 c1, .slice A2 n2 c2, .int .u32 (lock : Int)], .bool f] wq (NonePost c wq)) := fun wq hq => by
    have := put_no t _ _ b (witd t) wq ((h'.keep hq (Nat.le_refl _)).up hq.size) hc
    unfold txV at this
    rw [← hv, ← hlk, ← hn1, ← hn2, ← hcc, ← hf] at this
    exact this
  have HB : Hid (Below w.heap.size w (w.alloc (.cells #[.int .u32 (ver : Int), .slice A1 n1 c1, .slice A2 n2 c2, .int .u32 (lock : Int)] 26)).drew) := ((Below.refl w.heap.size w).alloc (Nat.le_refl _) _).drew
  have E0 : Hid (∀ wq, SB (w.alloc (.cells #[.int .u32 (ver : Int), .slice A1 n1 c1, .slice A2 n2 c2, .int .u32 (lock : Int)] 26)).drew wq → wq.cell? ⟨w.heap.size, 0, none⟩ = some (.int .u32 (ver : Int)) ∧ wq.cell? ⟨w.heap.size, 1, none⟩ = some (.slice A1 n1 c1) ∧ wq.cell? ⟨w.heap.size, 2, none⟩ = some (.slice A2 n2 c2) ∧ wq.cell? ⟨w.heap.size, 3, none⟩ = some (.int .u32 (lock : Int))) := fun wq hq =>
    ⟨hq.cell (cell_new (w := w) rfl rfl), hq.cell (cell_new (w := w) rfl rfl), hq.cell (cell_new (w := w) rfl rfl), hq.cell (cell_new (w := w) rfl rfl)⟩
  unfold txV
  rw [← hv, ← hlk, ← hn1, ← hn2, ← hcc]
  clear h' hn1 hn2 hv hlk hf hcc hc
  go_enter Tryd.func8, Tryd.ntmps8
  go_upto_region 1 with fail
  generalize hWd : (w.alloc (.cells #[.int .u32 (ver : Int), .slice A1 n1 c1, .slice A2 n2 c2, .int .u32 (lock : Int)] 26)).drew = Wd
  rw [hWd] at HB E0
  refine wp_region_but (z := 999) (SB Wd) (by kernel_rfl) ?_
  rw [hWd]
  have hS : SB Wd Wd := SB.refl Wd
  clear hWd
  refine AnyBut.takeE (i := 0) (v := ?_) rfl (by kernel_rfl) (by kernel_rfl) (by kernel_rfl) (by kernel_rfl) (fun _ _ _ h => h) (Or.inl ⟨by rfl, ?_⟩) hS ?_
  rotate_left
  · (intro wq hq; go_simp; try with_reducible rfl)
  try simp only [Act.put, List.setIfInBounds_toArray, List.set_cons_zero, List.set_cons_succ, List.getElem_toArray, List.getElem_cons_zero, List.getElem_cons_succ]
  refine AnyBut.takeE (i := 1) (v := .agg #[.int .u32 (ver : Int), .slice A1 n1 c1, .slice A2 n2 c2, .int .u32 (lock : Int)]) rfl (by kernel_rfl) (by kernel_rfl) (by kernel_rfl) (by kernel_rfl) (fun _ _ _ h => h) (Or.inl ⟨by rfl, ?_⟩) hS ?_
  · intro wq hq
    obtain ⟨dq0, dq1, dq2, dq3⟩ := E0.out wq hq
    go_simp
  try simp only [Act.put, List.setIfInBounds_toArray, List.set_cons_zero, List.set_cons_succ, List.getElem_toArray, List.getElem_cons_zero, List.getElem_cons_succ]
  refine AnyBut.takeE (i := 2) (v := .agg #[.int .u32 (ver : Int), .slice A1 n1 c1, .slice A2 n2 c2, .int .u32 (lock : Int)]) rfl (by kernel_rfl) (by kernel_rfl) (by kernel_rfl) (by kernel_rfl) (fun _ _ _ h => h) (Or.inl ⟨by rfl, ?_⟩) hS ?_
  · intro wq hq
    obtain ⟨dq0, dq1, dq2, dq3⟩ := E0.out wq hq
    go_simp
  try simp only [Act.put, List.setIfInBounds_toArray, List.set_cons_zero, List.set_cons_succ, List.getElem_toArray, List.getElem_cons_zero, List.getElem_cons_succ]
  refine AnyBut.gone (i := 3) (by kernel_rfl) rfl (by rfl) (fun K hK => ?_)
  go_simp
  (with_reducible refine (K35.out _ HB.out).mono ?_)
  rintro e w3 ⟨rfl, hb3⟩
  have hS : SB Wd w3 := SB.next hS hb3
  have HB3 : Hid (Below w.heap.size w w3) := HB.out.trans (hb3.mono HB.out.size)
  clear hb3
  dsimp only
  refine hK _ _ (fun _ => hS) ?_
  clear hK K
  try simp only [Act.put, List.setIfInBounds_toArray, List.set_cons_zero, List.set_cons_succ, List.getElem_toArray, List.getElem_cons_zero, List.getElem_cons_succ]
  refine AnyBut.gone (i := 4) (by kernel_rfl) rfl (by rfl) (fun K hK => ?_)
  go_simp
  (with_reducible refine (K34.out _ HB3.out).mono ?_)
  rintro e w4 ⟨rfl, hb4⟩
  have hS : SB Wd w4 := SB.next hS hb4
  have HB4 : Hid (Below w.heap.size w w4) := HB3.out.trans (hb4.mono HB3.out.size)
  clear hb4
  dsimp only
  refine hK _ _ (fun _ => hS) ?_
  clear hK K
  try simp only [Act.put, List.setIfInBounds_toArray, List.set_cons_zero, List.set_cons_succ, List.getElem_toArray, List.getElem_cons_zero, List.getElem_cons_succ]
  refine AnyBut.takeE (i := 5) (v := ?_) rfl (by kernel_rfl) (by kernel_rfl) (by kernel_rfl) (by kernel_rfl) (fun _ _ _ h => h) (Or.inl ⟨by rfl, ?_⟩) hS ?_
  rotate_left
  · (intro wq hq; go_simp; try with_reducible rfl)
  try simp only [Act.put, List.setIfInBounds_toArray, List.set_cons_zero, List.set_cons_succ, List.getElem_toArray, List.getElem_cons_zero, List.getElem_cons_succ]
  refine AnyBut.takeE (i := 6) (v := ?_) rfl (by kernel_rfl) (by kernel_rfl) (by kernel_rfl) (by kernel_rfl) (fun _ _ _ h => h) (Or.inl ⟨by rfl, ?_⟩) hS ?_
  rotate_left
  · (intro wq hq; go_simp; try with_reducible rfl)
  try simp only [Act.put, List.setIfInBounds_toArray, List.set_cons_zero, List.set_cons_succ, List.getElem_toArray, List.getElem_cons_zero, List.getElem_cons_succ]
  refine AnyBut.takeE (i := 7) (v := ?_) rfl (by kernel_rfl) (by kernel_rfl) (by kernel_rfl) (by kernel_rfl) (fun _ _ _ h => h) (Or.inl ⟨by rfl, ?_⟩) hS ?_
  rotate_left
  · (intro wq hq; go_simp; try with_reducible rfl)
  try simp only [Act.put, List.setIfInBounds_toArray, List.set_cons_zero, List.set_cons_succ, List.getElem_toArray, List.getElem_cons_zero, List.getElem_cons_succ]
  refine AnyBut.gone (i := 8) (by kernel_rfl) rfl (by rfl) (fun K hK => ?_)
  go_simp
  refine hK _ _ (fun _ => hS) ?_
  clear hK K
  refine AnyBut.done (by kernel_rfl) ?_ _
  dsimp only [Exit.then]
  clear hS
  go_wp2_with fail
  go_ret2
  exact ⟨rfl, HB4.out⟩
open Go.RowKit
set_option linter.unusedVariables false
set_option linter.unusedSimpArgs false
set_option maxRecDepth 100000
/-- Nothing has changed but blocks p and q, and what is new. -/
structure Fr (w w' : World) (p q : Option Nat) : Prop where
  os : w'.os = w.os
  tape : w'.tape = w.tape
  output : w'.output = w.output
  size : w.heap.size ≤ w'.heap.size
  block : ∀ k, k < w.heap.size → some k ≠ p → some k ≠ q → w'.heap[k]? = w.heap[k]?
theorem Fr.of_grown {w w' : World} {p : Option Nat} (h : w.grownBy w' p) (q : Option Nat) : Fr w w' p q := ⟨h.os, h.tape, h.output, h.size, fun k hk hp _ => h.block k hk hp⟩
theorem Fr.refl (w : World) (p q : Option Nat) : Fr w w p q := ⟨rfl, rfl, rfl, Nat.le_refl _, fun _ _ _ _ => rfl⟩
theorem Fr.trans {w w1 w2 : World} {p q : Option Nat} (h : Fr w w1 p q) (h2 : Fr w1 w2 p q) : Fr w w2 p q :=
  ⟨h2.os.trans h.os, h2.tape.trans h.tape, h2.output.trans h.output, Nat.le_trans h.size h2.size, fun k hk hp hq => (h2.block k (Nat.lt_of_lt_of_le hk h.size) hp hq).trans (h.block k hk hp hq)⟩
theorem Fr.store (w : World) (p : Option Nat) (b o : Nat) (v : Value) : Fr w (w.setCell ⟨b, o, none⟩ v) p (some b) :=
  ⟨rfl, rfl, rfl, by simp [World.setCell], fun k hk _ hq => Below.heap_setCell _ _ _ _ fun e => hq (by rw [e])⟩
/-- Behind a step that changes p and a row that is new to w0, w0 has grown by p alone. -/
theorem Fr.grown {w0 w w' : World} {p : Option Nat} {b : Nat} (h0 : w0.grownBy w p) (h : Fr w w' p (some b)) (hb : w0.heap.size ≤ b) : w0.grownBy w' p :=
  ⟨h.os.trans h0.os, h.tape.trans h0.tape, h.output.trans h0.output, Nat.le_trans h0.size h.size, fun k hk hp => (h.block k (Nat.lt_of_lt_of_le hk h0.size) hp (by intro e; injection e; omega)).trans (h0.block k hk hp)⟩
theorem Fr.outer {w0 w w' : World} {p q : Option Nat} {b : Nat} (h0 : Fr w0 w p q) (h : Fr w w' p (some b)) (hb : w0.heap.size ≤ b) : Fr w0 w' p q :=
  ⟨h.os.trans h0.os, h.tape.trans h0.tape, h.output.trans h0.output, Nat.le_trans h0.size h.size, fun k hk hp hq => (h.block k (Nat.lt_of_lt_of_le hk h0.size) hp (by intro e; injection e; omega)).trans (h0.block k hk hp hq)⟩
theorem Blk.fr {w w' : World} {b : Nat} {T : TypeId} {vs : List Value} {p q : Option Nat} (h : Blk w b T vs) (hf : Fr w w' p q) (hp : some b ≠ p) (hq : some b ≠ q) : Blk w' b T vs := by
  have hl := h.lt
  unfold Blk at *; rw [hf.block b hl hp hq]; exact h
theorem IsR.box {w : World} {B : Nat} {p : Option Nat} {s : Option (List (BitVec 8))} (h : IsR w B p s) {g : Nat} (hg : p = some g) : ∃ vs, Blk w g 74 vs := by
  cases s with
  | none => exact ⟨_, (h g hg).2⟩
  | some L =>
    obtain ⟨g', A, cap, e, _, hb, _⟩ := h
    rw [hg] at e
    cases e
    exact ⟨_, hb⟩
theorem Blk.apart {w : World} {b b' : Nat} {T T' : TypeId} {vs vs' : List Value} (h : Blk w b T vs) (h' : Blk w b' T' vs') (hT : T ≠ T') : b ≠ b' := fun e => by
  subst e
  unfold Blk at h h'
  rw [h] at h'
  injection h' with h'
  injection h' with _ h'
  exact hT h'
theorem IsR.ne {w : World} {B b : Nat} {p : Option Nat} {s : Option (List (BitVec 8))} {T : TypeId} {vs : List Value} (h : IsR w B p s) (hb : Blk w b T vs) (hT : T ≠ 74) : some b ≠ p := fun e => by
  obtain ⟨us, hu⟩ := h.box e.symm
  exact hb.apart hu hT rfl
theorem IsR.store {w : World} {B b : Nat} {p : Option Nat} {s : Option (List (BitVec 8))} {T : TypeId} {vs : List Value} (h : IsR w B p s) (hb : Blk w b T vs) (hT : T ≠ 74) (hT5 : T ≠ 5) (o : Nat) (v : Value) : IsR (w.setCell ⟨b, o, none⟩ v) B p s := by
  have hn := h.ne hb hT
  cases s with
  | none => exact fun g hg => ⟨(h g hg).1, (h g hg).2.other (fun e => hn (by rw [hg]; exact congrArg some e.symm)) v⟩
  | some L =>
    obtain ⟨g, A, cap, e, hg, hk, ho, r⟩ := h
    exact ⟨g, A, cap, e, hg, hk.other (fun e' => hn (by rw [e]; exact congrArg some e'.symm)) v, ho.store hb hT5 o v, r⟩
/-- The value v is a slice of bytes of the program's own, that reads as L. -/
def SlN (w : World) (v : Value) (L : List (BitVec 8)) : Prop :=
  ∃ A cap, v = .slice A L.length cap ∧ Own5 w w.heap.size A L ∧ L.length ≤ cap ∧ cap ≤ 9223372036854775807 ∧ (A = none → cap = 0)
theorem SlN.nil (w : World) : SlN w (.slice none 0 0) [] := ⟨none, 0, rfl, fun h => by simp at h, Nat.le_refl _, by omega, fun _ => rfl⟩
theorem SlN.sl {w : World} {v : Value} {L : List (BitVec 8)} (h : SlN w v L) : Sl w w.heap.size v L := by
  obtain ⟨A, cap, e, ho, r⟩ := h
  exact ⟨A, cap, e, ho.rd, r⟩
theorem Own5.size {w w' : World} {B B' : Nat} {A : Option Addr} {L : List (BitVec 8)} (h : Own5 w B A L) (hB : B ≤ B') (hk : ∀ b cur, b < B → w.heap[b]? = some (.cells cur 5 (0, 0)) → w'.heap[b]? = w.heap[b]?) : Own5 w' B' A L := fun hp => by
  obtain ⟨b, o, cur, e, hb, hh, hc⟩ := h hp
  exact ⟨b, o, cur, e, by omega, by rw [hk b cur hb hh]; exact hh, hc⟩
theorem SlN.fr {w w' : World} {v : Value} {L : List (BitVec 8)} {B b : Nat} {p : Option Nat} {s : Option (List (BitVec 8))} {T : TypeId} {vs : List Value} (h : SlN w v L) (hR : IsR w B p s) (hb : Blk w b T vs) (hT : T ≠ 5) (hf : Fr w w' p (some b)) : SlN w' v L := by
  obtain ⟨A, cap, e, ho, r⟩ := h
  refine ⟨A, cap, e, ho.size hf.size fun k cur hk hh => hf.block k hk ?_ ?_, r⟩
  · intro e'
    obtain ⟨us, hu⟩ := hR.box e'.symm
    unfold Blk at hu
    rw [hh] at hu
    injection hu with hu
    injection hu with _ hu
    exact absurd hu (by decide)
  · intro e'
    injection e' with e'
    subst e'
    unfold Blk at hb
    rw [hh] at hb
    injection hb with hb
    injection hb with _ hb
    exact hT hb.symm
theorem SlN.of_ob {w : World} {B : Nat} {v : Value} {L : List (BitVec 8)} (h : OB w B v L) : SlN w v L := h.own5
/-- Behind a reading of one item: its bytes stand in the row, the code is the text's. -/
def ItemPost (s : Option (List (BitVec 8))) (B rb j : Nat) (p : Option Nat) (xs : List Value) (w : World) (e : Ending) (w' : World) : Prop :=
  ∃ v, e = .returned (.int .i64 (tE s 128)) ∧ SlN w' v (tL s 128) ∧ Blk w' rb 27 (xs.set j v) ∧ IsR w' B p (tS s 128) ∧ Fr w w' p (some rb)
theorem rdItem_any (p : Option Nat) (s : Option (List (BitVec 8))) (B rb j cb : Nat) (xs : List Value) (w : World) (h : IsR w B p s) (hB : B ≤ w.heap.size) (hl : Short s 100000000) (hc : Blk w cb 50 [ptr p]) (hr : Blk w rb 27 xs) (hj : j < xs.length) :
    Calls Tryd.prog 94 #[.pointer (some ⟨rb, j, none⟩), .pointer (some ⟨cb, 0, none⟩)] w (ItemPost s B rb j p xs w) := by
  have c0 := hc.cell (j := 0) (v := ptr p) rfl
  have K := Lib.hid (text_any p s 128 B w h hB hl (by omega))
  have e128 : (128 : Int).toNat = 128 := rfl
  rw [e128] at K
  have HN := Lib.hid (h.ne hr (by decide))
  have HR := Lib.hid hr
  obtain ⟨y, hy⟩ : ∃ y, xs[j]? = some y := ⟨_, List.getElem?_eq_getElem hj⟩
  have HJ := Lib.hid hy
  obtain ⟨P, hP⟩ : ∃ P, P = ptr p := ⟨_, rfl⟩
  obtain ⟨c, hcE⟩ : ∃ c, c = tE s 128 := ⟨_, rfl⟩
  obtain ⟨X, hX⟩ : ∃ X, X = tL s 128 := ⟨_, rfl⟩
  unfold ItemPost
  rw [← hP] at c0 K
  rw [← hcE, ← hX] at K ⊢
  clear h hB hl hc hr hj hP hcE hX e128 hy
  go_enter Tryd.func94, Tryd.ntmps94
  go_wp2_with (go_at_call 89; (with_reducible refine K.out.mono ?_); rintro e w1 ⟨v, rfl, ho, hi, hg⟩; obtain ⟨A, cap, rfl, hS⟩ := ho.own5; have hb1 := HR.out.grown hg HN.out; have d0 := hb1.cell HJ.out; have f0 := hb1.free j; have HS := Lib.hid hS; have HB1 := Lib.hid hb1; have HI := Lib.hid hi; have HG := Lib.hid hg; clear ho hi hg hS hb1 K c0; dsimp only)
  go_ret
  have fs := Fr.store w1 p rb j (.slice A X.length cap)
  have hsn : SlN w1 (.slice A X.length cap) X := ⟨A, cap, rfl, HS.out⟩
  exact ⟨_, rfl, hsn.fr HI.out HB1.out (by decide) fs, HB1.out.set j _, HI.out.store HB1.out (by decide) (by decide) j _, (Fr.of_grown HG.out _).trans fs⟩
open Go.RowKit
set_option linter.unusedVariables false
set_option linter.unusedSimpArgs false
set_option maxRecDepth 100000
/-- A number as the program takes it for a value. -/
def i64w (n : Nat) : Int := IntKind.i64.wrap (n : Int)
def RdOutPost (s : Option (List (BitVec 8))) (B rb o : Nat) (p : Option Nat) (xs : List Value) (w : World) (e : Ending) (w' : World) : Prop :=
  ∃ v, e = .returned (.int .i64 (tE (numS s 8) 128)) ∧ SlN w' v (tL (numS s 8) 128) ∧ Blk w' rb 43 ((xs.set o (.int .i64 (i64w (numV s 8)))).set (o + 1) v) ∧ IsR w' B p (tS (numS s 8) 128) ∧ Fr w w' p (some rb)
theorem rdOut_any (p : Option Nat) (s : Option (List (BitVec 8))) (B rb o cb : Nat) (xs : List Value) (w : World) (h : IsR w B p s) (hB : B ≤ w.heap.size) (hl : Short s 100000000) (hc : Blk w cb 50 [ptr p]) (hr : Blk w rb 43 xs) (hj : o + 1 < xs.length) :
    Calls Tryd.prog 90 #[.pointer (some ⟨rb, o, none⟩), .pointer (some ⟨cb, 0, none⟩)] w (RdOutPost s B rb o p xs w) := by
  have c0 := hc.cell (j := 0) (v := ptr p) rfl
  have K1 := Lib.hid (num_any p s 8 B w h hB)
  have HN := Lib.hid (h.ne hr (by decide))
  have HNc := Lib.hid (h.ne hc (by decide))
  have HX := Lib.hid (hc.apart hr (by decide))
  have HC := Lib.hid hc
  have HR := Lib.hid hr
  have HB := Lib.hid hB
  have HL := Lib.hid (numS_short hl 8)
  obtain ⟨y, hy⟩ : ∃ y, xs[o]? = some y := ⟨_, List.getElem?_eq_getElem (by omega)⟩
  obtain ⟨z, hz⟩ : ∃ z, xs[o + 1]? = some z := ⟨_, List.getElem?_eq_getElem hj⟩
  obtain ⟨n8, hn8⟩ : ∃ n, n = numV s 8 := ⟨_, rfl⟩
  obtain ⟨s1, hs1⟩ : ∃ s', s' = numS s 8 := ⟨_, rfl⟩
  obtain ⟨i8, hi8⟩ : ∃ n, n = i64w n8 := ⟨_, rfl⟩
  have hi8' : IntKind.i64.wrap (n8 : Int) = i8 := hi8.symm
  have hz1 : (xs.set o (.int .i64 i8))[o + 1]? = some z := by rw [List.getElem?_set_ne (by omega)]; exact hz
  have HY := Lib.hid hy
  have HZ := Lib.hid hz1
  obtain ⟨P, hP⟩ : ∃ P, P = ptr p := ⟨_, rfl⟩
  have hE : Hid (∀ wq, IsR wq B p s1 → B ≤ wq.heap.size → Calls Tryd.prog 89 #[P, .int .i64 128] wq (TextPost (tL s1 128) (tE s1 128) (tS s1 128) B p wq)) := fun wq hq hBq => by
    rw [hP]; exact text_any p s1 128 B wq hq hBq (by rw [hs1]; exact HL.out) (by omega)
  unfold RdOutPost
  rw [← hs1, ← hn8, ← hi8]
  rw [← hs1, ← hn8] at K1
  rw [← hP] at c0 K1 HC
  obtain ⟨c, hcE⟩ : ∃ c, c = tE s1 128 := ⟨_, rfl⟩
  obtain ⟨X, hX⟩ : ∃ X, X = tL s1 128 := ⟨_, rfl⟩
  rw [← hcE, ← hX] at hE ⊢
  clear h hB hl hc hr hj hP hcE hX hy hz hz1 hn8 hs1 hi8
  go_enter Tryd.func90, Tryd.ntmps90
  go_wp2_with (first
    | (go_at_call 89; (with_reducible refine (hE.out _ HI1.out HB1.out).mono ?_); rintro e w2 ⟨v, rfl, ho, hi, hg⟩; obtain ⟨A, cap, rfl, hS⟩ := ho.own5; have hb2 := HR1.out.grown hg HN.out; have d1 := hb2.cell HZ.out; have f1 := hb2.free (o + 1); have HS := Lib.hid hS; have HR2 := Lib.hid hb2; have HI2 := Lib.hid hi; have HG2 := Lib.hid hg; clear ho hi hg hS hb2 hE; dsimp only)
    | (go_at_call 58; (with_reducible refine K1.out.mono ?_); rintro e w1 ⟨rfl, hi, hg⟩; have hb1 := HR.out.grown hg HN.out; have hc1 := HC.out.grown hg HNc.out; have d0 := hb1.cell HY.out; have f0 := hb1.free o; have HIa := Lib.hid hi; have HG := Lib.hid hg; have HR0 := Lib.hid hb1; have HI1 := Lib.hid (hi.store hb1 (by decide) (by decide) o (.int .i64 i8)); have HR1 := Lib.hid (hb1.set o (.int .i64 i8)); have HB1 := Lib.hid (Nat.le_trans (Nat.le_trans HB.out hg.size) (Fr.store w1 p rb o (.int .i64 i8)).size); have c1 := (hc1.other HX.out (a := ⟨rb, o, none⟩) (.int .i64 i8)).cell (j := 0) rfl; clear hi hg hb1 hc1 K1 c0; dsimp only))
  go_ret
  have fs1 := Fr.store w1 p rb o (.int .i64 i8)
  have fs2 := Fr.store w2 p rb (o + 1) (.slice A X.length cap)
  have hsn : SlN w2 (.slice A X.length cap) X := ⟨A, cap, rfl, HS.out⟩
  exact ⟨_, rfl, hsn.fr HI2.out HR2.out (by decide) fs2, HR2.out.set _ _, HI2.out.store HR2.out (by decide) (by decide) _ _, ((Fr.of_grown HG.out _).trans fs1).trans ((Fr.of_grown HG2.out _).trans fs2)⟩
open Go.RowKit
set_option linter.unusedVariables false
set_option linter.unusedSimpArgs false
set_option maxRecDepth 100000
theorem tS_short {s : Option (List (BitVec 8))} {k : Nat} (h : Short s k) (m : Nat) : Short (tS s m) k := by
  unfold tS
  split
  · exact cutS_short (gS_short h) _
  · exact gS_short h
/-- n items read of s: the error, the items, what is left. -/
def rI : Nat → Option (List (BitVec 8)) → Int × List (List (BitVec 8)) × Option (List (BitVec 8))
  | 0, s => (0, [], s)
  | n + 1, s => if tE s 128 = 0 then ((rI n (tS s 128)).1, tL s 128 :: (rI n (tS s 128)).2.1, (rI n (tS s 128)).2.2) else (tE s 128, [], tS s 128)
/-- Slices of bytes in a row: each reads as its bytes. -/
def SlNs (w : World) (vs : List Value) (Ls : List (List (BitVec 8))) : Prop := vs.length = Ls.length ∧ ∀ j u, vs[j]? = some u → SlN w u (Ls.getD j [])
theorem SlNs.nil (w : World) : SlNs w [] [] := ⟨rfl, fun j u h => by simp at h⟩
theorem SlNs.snoc {w : World} {vs : List Value} {Ls : List (List (BitVec 8))} {v : Value} {L : List (BitVec 8)} (h : SlNs w vs Ls) (hv : SlN w v L) : SlNs w (vs ++ [v]) (Ls ++ [L]) := by
  refine ⟨by simp [h.1], fun j u hj => ?_⟩
  rcases Nat.lt_or_ge j vs.length with hl | hl
  · rw [List.getElem?_append_left hl] at hj
    have := h.2 j u hj
    have e : (Ls ++ [L]).getD j [] = Ls.getD j [] := by simp [List.getD, List.getElem?_append_left (by rw [← h.1]; exact hl : j < Ls.length)]
    rw [e]; exact this
  · rw [List.getElem?_append_right hl] at hj
    have hj0 : j = vs.length := by
      rcases Nat.eq_or_lt_of_le hl with e | e
      · exact e.symm
      · rw [List.getElem?_eq_none (by simp; omega)] at hj; cases hj
    subst hj0
    simp at hj
    subst hj
    have e : (Ls ++ [L]).getD vs.length [] = L := by rw [h.1]; simp [List.getD]
    rw [e]; exact hv
theorem SlNs.fr {w w' : World} {vs : List Value} {Ls : List (List (BitVec 8))} {B b : Nat} {p : Option Nat} {s : Option (List (BitVec 8))} {T : TypeId} {us : List Value} (h : SlNs w vs Ls) (hR : IsR w B p s) (hb : Blk w b T us) (hT : T ≠ 5) (hf : Fr w w' p (some b)) : SlNs w' vs Ls :=
  ⟨h.1, fun j u hj => (h.2 j u hj).fr hR hb hT hf⟩
def ItsPost (r : Int × List (List (BitVec 8)) × Option (List (BitVec 8))) (B ib : Nat) (p : Option Nat) (w0 : World) (w' : World) : Prop :=
  r.1 = 0 ∧ ∃ vs, SlNs w' vs r.2.1 ∧ Blk w' ib 27 vs ∧ IsR w' B p r.2.2 ∧ Fr w0 w' p (some ib)
def ErrPost (c0 : Int) (s : Option (List (BitVec 8))) (B : Nat) (p q : Option Nat) (w0 : World) (c : Int) (w' : World) : Prop :=
  c0 = c ∧ IsR w' B p s ∧ Fr w0 w' p q
theorem items_any (p : Option Nat) (s : Option (List (BitVec 8))) (B ib n cb cap : Nat) (w0 : World) (h : IsR w0 B p s) (hB : B ≤ w0.heap.size) (hl : Short s 100000000) (hc : Blk w0 cb 50 [ptr p]) (hr : Blk w0 ib 27 (List.replicate n (.slice none 0 0))) (hn : n ≤ 1000000) :
    Calls Tryd.prog 93 #[.slice (some ⟨ib, 0, none⟩) n cap, .func (.func 94) #[] #[.pointer (some ⟨cb, 0, none⟩)]] w0 (StepPost (ItsPost (rI n s) B ib p w0) (ErrPost (rI n s).1 (rI n s).2.2 B p (some ib) w0)) := by
  have hne : cb ≠ ib := hc.apart hr (by decide)
  refine (eachR_item (fun i w => ∃ (Ls : List (List (BitVec 8))) (s' : Option (List (BitVec 8))) (vs : List Value), vs.length = i ∧ rI n s = ((rI (n - i) s').1, Ls ++ (rI (n - i) s').2.1, (rI (n - i) s').2.2) ∧ SlNs w vs Ls ∧ Blk w ib 27 (vs ++ List.replicate (n - i) (.slice none 0 0)) ∧ IsR w B p s' ∧ Fr w0 w p (some ib) ∧ Blk w cb 50 [ptr p] ∧ Short s' 100000000) (ErrPost (rI n s).1 (rI n s).2.2 B p (some ib) w0) (some ⟨ib, 0, none⟩) n cap ib 0 cb w0 (fun _ => rfl) hn ?_ ?_).mono ?_
  · rintro i hi wq ⟨Ls, s', vs, hvl, hrI, hsl, hb, hR, hF, hcb, hS⟩
    rw [Nat.zero_add]
    obtain ⟨k, hk⟩ : ∃ k, n - i = k + 1 := ⟨n - i - 1, by omega⟩
    have hk2 : n - (i + 1) = k := by omega
    rw [hk] at hrI hb
    refine (rdItem_any p s' B ib i cb _ wq hR (Nat.le_trans hB hF.size) hS hcb hb (by simp; omega)).mono ?_
    rintro e w' ⟨v, rfl, hv, hb', hR', hF'⟩
    refine ⟨_, rfl, fun h0 => ?_, fun h0 => ?_⟩
    · rw [hk2]
      simp only [rI, h0, if_true] at hrI
      refine ⟨Ls ++ [tL s' 128], tS s' 128, vs ++ [v], by simp [hvl], ?_, (hsl.fr hR hb (by decide) hF').snoc hv, ?_, hR', hF.trans hF', hcb.fr hF' (hR.ne hcb (by decide)) (fun e => hne (by injection e)), tS_short hS _⟩
      · rw [hrI]; simp
      · have e1 : (vs ++ List.replicate (k + 1) (Value.slice none 0 0)).set i v = (vs ++ [v]) ++ List.replicate k (Value.slice none 0 0) := by
          rw [List.replicate_succ, ← hvl]; simp
        rw [e1] at hb'
        exact hb'
    · have e1 : rI n s = (tE s' 128, Ls, tS s' 128) := by
        rw [hrI]; simp only [rI, h0, if_false, List.append_nil]
      rw [e1]
      exact ⟨rfl, hR', hF.trans hF'⟩
  · exact ⟨[], s, [], rfl, by simp, SlNs.nil _, by simpa using hr, h, Fr.refl _ _ _, hc, hl⟩
  · rintro e w' ⟨c, rfl, h0, h1⟩
    refine ⟨c, rfl, fun hc0 => ?_, h1⟩
    obtain ⟨Ls, s', vs, hvl, hrI, hsl, hb, hR, hF, _, _⟩ := h0 hc0
    rw [Nat.sub_self] at hrI hb
    simp only [rI, List.append_nil, List.replicate_zero] at hrI hb
    rw [hrI]
    exact ⟨rfl, vs, hsl, hb, hR, hF⟩
open Go.RowKit
set_option linter.unusedVariables false
set_option linter.unusedSimpArgs false
set_option maxRecDepth 100000
theorem info27r : (Tryd.prog.info? 27).map (fun i => (i.zero, i.size, i.bytes)) = some (some (.slice none 0 0), 1, 24) := by kernel_rfl
theorem make_w (n : Nat) (hn : n ≤ 1000) (w : World) : (Instr.makeSlice 55 (.int .u64 (n : Int)) (.int .u64 (n : Int))).run Tryd.prog w = .ok (.slice (some ⟨w.heap.size, 0, none⟩) n n) (w.alloc (.cells (Array.replicate n (.slice none 0 0)) 27)) := by
  obtain ⟨i0, hi, hz⟩ : ∃ i, Tryd.prog.info? 27 = some i ∧ (i.zero, i.size, i.bytes) = (some (.slice none 0 0), 1, 24) := by
    have := info27r
    cases h : Tryd.prog.info? 27 with
    | none => rw [h] at this; cases this
    | some i => rw [h] at this; exact ⟨i, rfl, by simpa using this⟩
  injection hz with hz0 hz
  injection hz with hz1 hz2
  have hr := run_make (P := Tryd.prog) w 55 27 i0 (.slice none 0 0) Tryd.underlying55 hi hz0 .u64 .u64 (n : Int) (n : Int) (by omega) (by omega) (by rw [hz2]; omega) (by omega)
  rw [hr, show ((n : Int)).toNat = n by omega, hz1, Nat.mul_one]
  congr 3
  apply Array.toList_inj.1
  simp [madeCells, Value.cells]
  apply List.ext_getElem (by simp)
  intro i h1 h2
  simp [Nat.mod_one]
/-- The witness that s begins with: the error, the items, what is left. -/
def rW (s : Option (List (BitVec 8))) : Int × List (List (BitVec 8)) × Option (List (BitVec 8)) := if gE s 8 = 0 then rI (gN s) (gS s) else (gE s 8, [], gS s)
theorem rI_len : ∀ (n : Nat) (s : Option (List (BitVec 8))), (rI n s).1 = 0 → (rI n s).2.1.length = n
  | 0, _, _ => rfl
  | n + 1, s, h => by
    by_cases h0 : tE s 128 = 0
    · simp only [rI, h0, if_true] at h ⊢
      simp [rI_len n _ h]
    · simp only [rI, h0, if_false] at h
/-- A slice of slices of bytes of the program's own. -/
def WsN (w : World) (u : Value) (Ls : List (List (BitVec 8))) : Prop := ∃ ib vs, u = .slice (some ⟨ib, 0, none⟩) Ls.length Ls.length ∧ Blk w ib 27 vs ∧ SlNs w vs Ls
def WitPost (r : Int × List (List (BitVec 8)) × Option (List (BitVec 8))) (B rb o : Nat) (p : Option Nat) (xs : List Value) (w0 : World) (w' : World) : Prop :=
  r.1 = 0 ∧ ∃ u, WsN w' u r.2.1 ∧ Blk w' rb 57 (xs.set (o + 35) u) ∧ IsR w' B p r.2.2 ∧ Fr w0 w' p (some rb)
set_option maxHeartbeats 1000000 in
theorem rdWit_any (p : Option Nat) (s : Option (List (BitVec 8))) (B rb o cb : Nat) (xs : List Value) (w : World) (h : IsR w B p s) (hB : B ≤ w.heap.size) (hl : Short s 100000000) (hc : Blk w cb 50 [ptr p]) (hr : Blk w rb 57 xs) (hj : o + 35 < xs.length) :
    Calls Tryd.prog 91 #[.pointer (some ⟨rb, o, none⟩), .pointer (some ⟨cb, 0, none⟩)] w (StepPost (WitPost (rW s) B rb o p xs w) (ErrPost (rW s).1 (rW s).2.2 B p (some rb) w)) := by
  have c0 := hc.cell (j := 0) (v := ptr p) rfl
  have K : Hid (Calls Tryd.prog 92 #[ptr p, .int .u64 8] w (GetPost (gV s 8) (gE s 8) (gS s) B p w)) := get_any p s 8 B w h hB
  have HN := Lib.hid (h.ne hr (by decide))
  have HNc := Lib.hid (h.ne hc (by decide))
  have HX := Lib.hid (hc.apart hr (by decide))
  have HC := Lib.hid hc
  have HR := Lib.hid hr
  have HB := Lib.hid hB
  have HL := Lib.hid (gS_short hl)
  by_cases he : gE s 8 = 0
  · have hN := gE_ne s 8 he
    have eV : gV s 8 = gN s := by unfold gV; rw [if_pos he]
    have eW : rW s = rI (gN s) (gS s) := by unfold rW; rw [if_pos he]
    rw [eW]
    rw [he, eV] at K
    obtain ⟨n, hn⟩ : ∃ n, n = gN s := ⟨_, rfl⟩
    obtain ⟨s1, hs1⟩ : ∃ s', s' = gS s := ⟨_, rfl⟩
    rw [← hn, ← hs1] at K ⊢
    rw [← hn] at hN
    rw [← hs1] at HL
    obtain ⟨y, hy⟩ : ∃ y, xs[o + 35]? = some y := ⟨_, List.getElem?_eq_getElem hj⟩
    have HY := Lib.hid hy
    have hM := make_w n (by omega)
    have HLn := Lib.hid (rI_len n s1)
    have HN8 := Lib.hid hN
    obtain ⟨P, hP⟩ : ∃ P, P = ptr p := ⟨_, rfl⟩
    have HP := Lib.hid hP
    rw [← hP] at c0 K
    clear h hB hl hc hr hj he hN eV eW hn hs1 hy hP
    go_enter Tryd.func91, Tryd.ntmps91
    go_wp2_with (first
      | (go_at_call 93; go_loud ((with_reducible refine K2.out.mono ?_); rintro e w2 hpost; have HPo := Lib.hid hpost; obtain ⟨c, rfl, _, _⟩ := hpost; clear K2; dsimp only))
      | (go_at_call 92; go_loud ((with_reducible refine K.out.mono ?_); rintro e w1 ⟨rfl, hi, hg⟩; have hb1 := HR.out.grown hg HN.out; have hc1 := HC.out.grown hg HNc.out; have hbA := hb1.alloc (.cells (Array.replicate n (.slice none 0 0)) 27); have d0 := hbA.cell HY.out; have f0 := hbA.free (o + 35); have hbS := hbA.set (o + 35) (.slice (some ⟨w1.heap.size, 0, none⟩) n n); have hlt : o + 35 < xs.length := (List.getElem?_eq_some_iff.1 HY.out).1; have d1 := hbS.cell (j := o + 35) (v := .slice (some ⟨w1.heap.size, 0, none⟩) n n) (by simp [hlt]); have hnew := Blk.new w1 27 (Array.replicate n (.slice none 0 0)); have hne : w1.heap.size ≠ rb := (by have := hb1.lt; omega); have hnS := hnew.other (a := ⟨rb, o + 35, none⟩) hne (.slice (some ⟨w1.heap.size, 0, none⟩) n n); have hcA := (hc1.alloc (.cells (Array.replicate n (.slice none 0 0)) 27)).other (a := ⟨rb, o + 35, none⟩) HX.out (.slice (some ⟨w1.heap.size, 0, none⟩) n n); have hBw1 : B ≤ w1.heap.size := Nat.le_trans HB.out hg.size; have hbW : Below w1.heap.size w1 (w1.alloc (.cells (Array.replicate n (.slice none 0 0)) 27)) := (Below.refl _ _).alloc (Nat.le_refl _) _; have hiA := hi.below hbW hBw1; have hiS := hiA.store hbA (by decide) (by decide) (o + 35) (.slice (some ⟨w1.heap.size, 0, none⟩) n n); have fA : Fr w1 (w1.alloc (.cells (Array.replicate n (.slice none 0 0)) 27)) p (some rb) := ⟨hbW.os, hbW.tape, hbW.output, hbW.size, fun k hk _ _ => hbW.block k hk⟩; have HF := Lib.hid (((Fr.of_grown hg (some rb)).trans fA).trans (Fr.store _ p rb (o + 35) (.slice (some ⟨w1.heap.size, 0, none⟩) n n))); have K2 := Lib.hid (items_any p s1 B w1.heap.size n cb n _ hiS (Nat.le_trans HB.out HF.out.size) HL.out hcA (by simpa using hnS) (by have := HN8.out; omega)); have HS := Lib.hid hbS; have HG := Lib.hid hg; have HIS := Lib.hid hiS; clear hi hg hb1 hc1 hbA hbS hnew hnS hcA hbW hiA hiS fA K c0; dsimp only)))
    go_ret
    obtain ⟨c', ec, h0, h1⟩ := HPo.out
    obtain rfl : c = c' := by injection ec with ec; injection ec
    have hsz : w.heap.size ≤ w1.heap.size := HG.out.size
    refine ⟨c, rfl, fun hc => ?_, fun hc => ?_⟩
    · obtain ⟨hr0, vs, hsl, hb, hR, hF⟩ := h0 hc
      exact ⟨hr0, _, ⟨w1.heap.size, vs, by rw [HLn.out hr0], hb, hsl⟩, HS.out.fr hF (HIS.out.ne HS.out (by decide)) (fun e => hne (by injection e with e; exact e.symm)), hR, HF.out.outer hF hsz⟩
    · obtain ⟨hr0, hR, hF⟩ := h1 hc
      exact ⟨hr0, hR, HF.out.outer hF hsz⟩
  · have eV : gV s 8 = 0 := by unfold gV; rw [if_neg he]
    have eW : rW s = (gE s 8, [], gS s) := by unfold rW; rw [if_neg he]
    rw [eW]
    rw [eV] at K
    obtain ⟨c, hcE⟩ : ∃ c, c = gE s 8 := ⟨_, rfl⟩
    rw [← hcE] at K he ⊢
    obtain ⟨s1, hs1⟩ : ∃ s', s' = gS s := ⟨_, rfl⟩
    rw [← hs1] at K ⊢
    have hc0 : (c != 0) = true := by simpa using he
    obtain ⟨P, hP⟩ : ∃ P, P = ptr p := ⟨_, rfl⟩
    rw [← hP] at c0 K
    have HE := Lib.hid he
    clear h hB hl hc hr hj he eV eW hcE hs1 hP
    go_enter Tryd.func91, Tryd.ntmps91
    go_wp2_with (go_at_call 92; (with_reducible refine K.out.mono ?_); rintro e w1 ⟨rfl, hi, hg⟩; have HI := Lib.hid hi; have HG := Lib.hid hg; clear hi hg K c0; dsimp only)
    go_ret
    exact ⟨c, rfl, fun h => absurd h HE.out, fun _ => ⟨rfl, HI.out, Fr.of_grown HG.out _⟩⟩
open Go.RowKit
set_option linter.unusedVariables false
set_option linter.unusedSimpArgs false
set_option maxRecDepth 100000
theorem cons_of {α : Type} {P : List α} {n : Nat} (h : P.length = n + 1) : ∃ a r, P = a :: r ∧ r.length = n := by
  cases P with
  | nil => cases h
  | cons a r => exact ⟨a, r, rfl, by simpa using h⟩
def ptV (X : List (BitVec 8)) (n : Nat) : List Value := vbs X ++ [.int .u32 (n : Int)]
theorem built54 (X : List (BitVec 8)) (n : Nat) (h1 : X.length = 32) : Tryd.prog.built 54 [(0, .agg (vbs X).toArray), (1, .int .u32 (n : Int))] = some (ptV X n).toArray := by
  obtain ⟨a0, p0, rfl, m0⟩ := cons_of h1
  obtain ⟨a1, p1, rfl, m1⟩ := cons_of m0
  obtain ⟨a2, p2, rfl, m2⟩ := cons_of m1
  obtain ⟨a3, p3, rfl, m3⟩ := cons_of m2
  obtain ⟨a4, p4, rfl, m4⟩ := cons_of m3
  obtain ⟨a5, p5, rfl, m5⟩ := cons_of m4
  obtain ⟨a6, p6, rfl, m6⟩ := cons_of m5
  obtain ⟨a7, p7, rfl, m7⟩ := cons_of m6
  obtain ⟨a8, p8, rfl, m8⟩ := cons_of m7
  obtain ⟨a9, p9, rfl, m9⟩ := cons_of m8
  obtain ⟨a10, p10, rfl, m10⟩ := cons_of m9
  obtain ⟨a11, p11, rfl, m11⟩ := cons_of m10
  obtain ⟨a12, p12, rfl, m12⟩ := cons_of m11
  obtain ⟨a13, p13, rfl, m13⟩ := cons_of m12
  obtain ⟨a14, p14, rfl, m14⟩ := cons_of m13
  obtain ⟨a15, p15, rfl, m15⟩ := cons_of m14
  obtain ⟨a16, p16, rfl, m16⟩ := cons_of m15
  obtain ⟨a17, p17, rfl, m17⟩ := cons_of m16
  obtain ⟨a18, p18, rfl, m18⟩ := cons_of m17
  obtain ⟨a19, p19, rfl, m19⟩ := cons_of m18
  obtain ⟨a20, p20, rfl, m20⟩ := cons_of m19
  obtain ⟨a21, p21, rfl, m21⟩ := cons_of m20
  obtain ⟨a22, p22, rfl, m22⟩ := cons_of m21
  obtain ⟨a23, p23, rfl, m23⟩ := cons_of m22
  obtain ⟨a24, p24, rfl, m24⟩ := cons_of m23
  obtain ⟨a25, p25, rfl, m25⟩ := cons_of m24
  obtain ⟨a26, p26, rfl, m26⟩ := cons_of m25
  obtain ⟨a27, p27, rfl, m27⟩ := cons_of m26
  obtain ⟨a28, p28, rfl, m28⟩ := cons_of m27
  obtain ⟨a29, p29, rfl, m29⟩ := cons_of m28
  obtain ⟨a30, p30, rfl, m30⟩ := cons_of m29
  obtain ⟨a31, p31, rfl, m31⟩ := cons_of m30
  obtain rfl := List.eq_nil_of_length_eq_zero m31
  kernel_rfl
theorem wp_build54 {o : Oper} {a : Act} {w : World} {K : Act → World → Prop} {Q : Exit → Act → World → Prop} (x0 x1 : Operand) (ho : o.op = .build 54 #[(0, x0), (1, x1)])
    (X : List (BitVec 8)) (n : Nat) (h0 : a.eval x0 = .agg (vbs X).toArray) (h1 : a.eval x1 = .int .u32 (n : Int)) (l1 : X.length = 32)
    (h : K (a.put o.dst (.agg (ptV X n).toArray)) w) : o.wp Tryd.prog a w K Q := by
  have e : Tryd.prog.built 54 ((#[(0, x0), (1, x1)] : Array (Nat × Operand)).map fun (i, x) => (i, a.eval x)).toList = some (ptV X n).toArray := by
    rw [← built54 X n l1]
    simp [h0, h1]
  exact wp_build 54 _ ho (by rw [e]; rfl) (by rw [e]; exact h)
theorem Blk.setCells_mid (b : Nat) (T : TypeId) : ∀ (us cur pre post : List Value) (w : World), us.length = cur.length → Blk w b T (pre ++ (cur ++ post)) → Blk (w.setCells b pre.length us) b T (pre ++ (us ++ post))
  | [], [], _, _, _, _, h => h
  | [], _ :: _, _, _, _, hl, _ => by simp at hl
  | _ :: _, [], _, _, _, hl, _ => by simp at hl
  | u :: us, c :: cur, pre, post, w, hl, h => by
    have h1 := h.set pre.length u
    have e : (pre ++ (c :: cur ++ post)).set pre.length u = (pre ++ [u]) ++ (cur ++ post) := by simp
    rw [e] at h1
    have h2 := Blk.setCells_mid b T us cur (pre ++ [u]) post _ (by simpa using hl) h1
    simpa [World.setCells] using h2
theorem Fr.stores (w : World) (p : Option Nat) (b : Nat) : ∀ (us : List Value) (o : Nat) (w' : World), Fr w w' p (some b) → Fr w (w'.setCells b o us) p (some b)
  | [], _, _, h => h
  | u :: us, o, w', h => Fr.stores w p b us (o + 1) _ (h.trans (Fr.store w' p b o u))
theorem IsR.stores {B b : Nat} {p : Option Nat} {s : Option (List (BitVec 8))} {T : TypeId} (hT : T ≠ 74) (hT5 : T ≠ 5) : ∀ (us : List Value) (o : Nat) (w : World) (vs : List Value), Blk w b T vs → IsR w B p s → IsR (w.setCells b o us) B p s
  | [], _, _, _, _, h => h
  | u :: us, o, w, vs, hb, h => IsR.stores hT hT5 us (o + 1) _ _ (hb.set o u) (h.store hb hT hT5 o u)
/-- An input's bytes, less its witness. -/
def rInV (s : Option (List (BitVec 8))) : TIn := ⟨hashL s, numV (cutS s 32) 4, tL (numS (cutS s 32) 4) 128, numV (tS (numS (cutS s 32) 4) 128) 4, []⟩
def rInE (s : Option (List (BitVec 8))) : Int := tE (numS (cutS s 32) 4) 128
def rInS (s : Option (List (BitVec 8))) : Option (List (BitVec 8)) := numS (tS (numS (cutS s 32) 4) 128) 4
theorem Blk.there_mid {w : World} {b : Nat} {T : TypeId} {vs : List Value} (h : Blk w b T vs) (o n : Nat) (hl : o + n ≤ vs.length) : w.there b o n := fun j hj =>
  ⟨by rw [h.cell (List.getElem?_eq_getElem (show o + j < vs.length by omega))]; rfl, h.free _⟩
theorem ptV_len {X : List (BitVec 8)} {n : Nat} (h : X.length = 32) : (ptV X n).length = 33 := by simp [ptV, vbs_len, h]
theorem ptV_one (X : List (BitVec 8)) (n : Nat) : (ptV X n).toArray.all (·.oneCell') = true := all_oneCell_toArray (by
  intro v hv
  simp only [ptV, List.mem_append, List.mem_singleton, vbs, List.mem_map] at hv
  rcases hv with ⟨_, _, rfl⟩ | rfl <;> rfl)
theorem set33 (pre post : List Value) (X : List (BitVec 8)) (n : Nat) (a b c v : Value) (h : X.length = 32) : (pre ++ (ptV X n ++ ([a, b, c] ++ post))).set (pre.length + 33) v = pre ++ (ptV X n ++ ([v, b, c] ++ post)) := by
  rw [List.set_append_right _ _ (by omega), List.set_append_right _ _ (by rw [ptV_len h]; omega), ptV_len h, show pre.length + 33 - pre.length - 33 = 0 by omega]
  rfl
theorem set34 (pre post : List Value) (X : List (BitVec 8)) (n : Nat) (a b c v : Value) (h : X.length = 32) : (pre ++ (ptV X n ++ ([a, b, c] ++ post))).set (pre.length + 34) v = pre ++ (ptV X n ++ ([a, v, c] ++ post)) := by
  rw [List.set_append_right _ _ (by omega), List.set_append_right _ _ (by rw [ptV_len h]; omega), ptV_len h, show pre.length + 34 - pre.length - 33 = 1 by omega]
  rfl
def RdInPost (s : Option (List (BitVec 8))) (B rb : Nat) (p : Option Nat) (pre post : List Value) (w : World) (e : Ending) (w' : World) : Prop :=
  ∃ v, e = .returned (.int .i64 (rInE s)) ∧ SlN w' v (rInV s).sc ∧ Blk w' rb 57 (pre ++ (inV (rInV s) v (.slice none 0 0) ++ post)) ∧ IsR w' B p (rInS s) ∧ Fr w w' p (some rb)
theorem numV_4 (s : Option (List (BitVec 8))) : numV s 4 < 4294967296 := by
  have h := lev_lt (takeL s 4)
  have h1 : (takeL s 4).length ≤ 4 := by
    cases s with
    | none => simp [takeL]
    | some L =>
      simp only [takeL]
      split
      · rw [List.length_take]; omega
      · simp
  have : 2 ^ (8 * (takeL s 4).length) ≤ 2 ^ 32 := Nat.pow_le_pow_right (by omega) (by omega)
  unfold numV
  split <;> omega
theorem info54 : (Tryd.prog.info? 54).map (·.size) = some 33 := by kernel_rfl
set_option maxHeartbeats 4000000 in
theorem rdIn_any (p : Option Nat) (s : Option (List (BitVec 8))) (B rb cb : Nat) (x0 : TIn) (pre post : List Value) (w : World) (h : IsR w B p s) (hB : B ≤ w.heap.size) (hl : Short s 100000000) (hc : Blk w cb 50 [ptr p]) (hx0 : x0.tx.length = 32) (hr : Blk w rb 57 (pre ++ (inV x0 (.slice none 0 0) (.slice none 0 0) ++ post))) :
    Calls Tryd.prog 87 #[.pointer (some ⟨rb, pre.length, none⟩), .pointer (some ⟨cb, 0, none⟩)] w (RdInPost s B rb p pre post w) := by
  obtain ⟨o, ho⟩ : ∃ o, o = pre.length := ⟨_, rfl⟩
  have Ho := Lib.hid ho
  have HN := Lib.hid (h.ne hr (by decide))
  have HNc := Lib.hid (h.ne hc (by decide))
  have HX := Lib.hid (hc.apart hr (by decide))
  have HC := Lib.hid hc
  have HR := Lib.hid hr
  have HB := Lib.hid hB
  have HI := Lib.hid h
  have HLh := Lib.hid (hashL_len s)
  have HL1 := Lib.hid (cutS_short hl 32)
  have hx4 := numV_4 (cutS s 32)
  have hx4' := numV_4 (tS (numS (cutS s 32) 4) 128)
  have HX0 := Lib.hid hx0
  have HS2 := Lib.hid (numS_short (cutS_short hl 32) 4)
  unfold RdInPost rInE rInS rInV
  obtain ⟨X, hX⟩ : ∃ X, X = hashL s := ⟨_, rfl⟩
  obtain ⟨s1, hs1⟩ : ∃ s', s' = cutS s 32 := ⟨_, rfl⟩
  rw [← hs1] at hx4 hx4' HL1 HS2 ⊢
  rw [← hX] at HLh ⊢
  obtain ⟨n4, hn4⟩ : ∃ n, n = numV s1 4 := ⟨_, rfl⟩
  obtain ⟨s2, hs2⟩ : ∃ s', s' = numS s1 4 := ⟨_, rfl⟩
  rw [← hn4] at hx4 ⊢
  rw [← hs2] at hx4' HS2 ⊢
  obtain ⟨Y, hY⟩ : ∃ Y, Y = tL s2 128 := ⟨_, rfl⟩
  obtain ⟨c, hcE⟩ : ∃ c, c = tE s2 128 := ⟨_, rfl⟩
  obtain ⟨s3, hs3⟩ : ∃ s', s' = tS s2 128 := ⟨_, rfl⟩
  rw [← hs3] at hx4' ⊢
  rw [← hY, ← hcE]
  obtain ⟨m4, hm4⟩ : ∃ n, n = numV s3 4 := ⟨_, rfl⟩
  obtain ⟨s4, hs4⟩ : ∃ s', s' = numS s3 4 := ⟨_, rfl⟩
  rw [← hm4] at hx4' ⊢
  rw [← hs4]
  obtain ⟨P, hP⟩ : ∃ P, P = ptr p := ⟨_, rfl⟩
  have KH : Hid (∀ wq, IsR wq B p s → B ≤ wq.heap.size → Calls Tryd.prog 88 #[P] wq (HashPost X s1 B p wq)) := fun wq hq hBq => by rw [hP, hX, hs1]; exact hash_any p s B wq hq hBq
  have KN : Hid (∀ wq, IsR wq B p s1 → B ≤ wq.heap.size → Calls Tryd.prog 58 #[P, .int .i64 4] wq (NumPost n4 s2 B p wq)) := fun wq hq hBq => by rw [hP, hn4, hs2]; exact num_any p s1 4 B wq hq hBq
  have KT : Hid (∀ wq, IsR wq B p s2 → B ≤ wq.heap.size → Calls Tryd.prog 89 #[P, .int .i64 128] wq (TextPost Y c s3 B p wq)) := fun wq hq hBq => by rw [hP, hY, hcE, hs3]; exact text_any p s2 128 B wq hq hBq HS2.out (by omega)
  have KM : Hid (∀ wq, IsR wq B p s3 → B ≤ wq.heap.size → Calls Tryd.prog 58 #[P, .int .i64 4] wq (NumPost m4 s4 B p wq)) := fun wq hq hBq => by rw [hP, hm4, hs4]; exact num_any p s3 4 B wq hq hBq
  have hw4 : IntKind.u32.wrap (n4 : Int) = (n4 : Int) := by rw [IntKind.wrap_u32]; omega
  have hw4' : IntKind.u32.wrap (m4 : Int) = (m4 : Int) := by rw [IntKind.wrap_u32]; omega
  rw [← hP] at HC
  rw [← ho]
  clear h hB hl hc hx0 hr hx4 hx4' hX hs1 hn4 hs2 hY hcE hs3 hm4 hs4 hP ho
  go_enter Tryd.func87, Tryd.ntmps87
  go_upto_region 1 with fail
  generalize hWd : w.drew = Wd
  have hCd : Blk Wd cb 50 [P] := by rw [← hWd]; exact HC.out.drew
  have hRd : Blk Wd rb 57 (pre ++ (inV x0 (.slice none 0 0) (.slice none 0 0) ++ post)) := by rw [← hWd]; exact HR.out.drew
  have hId : IsR Wd B p s := by rw [← hWd]; exact HI.out
  have hFd : Fr w Wd p (some rb) := by rw [← hWd]; exact ⟨rfl, rfl, rfl, Nat.le_refl _, fun _ _ _ _ => rfl⟩
  refine wp_region_but (z := 999) (fun wq => Blk wq cb 50 [P]) (by kernel_rfl) ?_
  rw [hWd]
  have hS := hCd
  clear hWd
  refine AnyBut.takeE (i := 0) (v := ?_) rfl (by kernel_rfl) (by kernel_rfl) (by kernel_rfl) (by kernel_rfl) (fun _ _ _ h => h) (Or.inl ⟨by rfl, ?_⟩) hS ?_
  rotate_left
  · (intro wq hq; go_simp; try with_reducible rfl)
  try simp only [Act.put, List.setIfInBounds_toArray, List.set_cons_zero, List.set_cons_succ, List.getElem_toArray, List.getElem_cons_zero, List.getElem_cons_succ]
  refine AnyBut.takeE (i := 1) (v := P) rfl (by kernel_rfl) (by kernel_rfl) (by kernel_rfl) (by kernel_rfl) (fun _ _ _ h => h) (Or.inl ⟨by rfl, ?_⟩) hS ?_
  · intro wq hq
    have dq := Blk.cell hq (j := 0) (v := P) rfl
    go_simp
  try simp only [Act.put, List.setIfInBounds_toArray, List.set_cons_zero, List.set_cons_succ, List.getElem_toArray, List.getElem_cons_zero, List.getElem_cons_succ]
  refine AnyBut.takeE (i := 3) (v := P) rfl (by kernel_rfl) (by kernel_rfl) (by kernel_rfl) (by kernel_rfl) (fun _ _ _ h => h) (Or.inl ⟨by rfl, ?_⟩) hS ?_
  · intro wq hq
    have dq := Blk.cell hq (j := 0) (v := P) rfl
    go_simp
  try simp only [Act.put, List.setIfInBounds_toArray, List.set_cons_zero, List.set_cons_succ, List.getElem_toArray, List.getElem_cons_zero, List.getElem_cons_succ]
  refine AnyBut.gone (i := 2) (by kernel_rfl) rfl (by rfl) (fun K hK => ?_)
  go_simp
  (with_reducible refine (KH.out _ hId (Nat.le_trans HB.out hFd.size)).mono ?_)
  rintro e w1 ⟨rfl, hi1, hg⟩
  have hS := hS.grown hg HNc.out
  have hR1 := hRd.grown hg HN.out
  have hF1 := hFd.trans (Fr.of_grown hg (some rb))
  dsimp only
  refine hK _ _ (fun _ => hS) ?_
  clear hK K hg
  try simp only [Act.put, List.setIfInBounds_toArray, List.set_cons_zero, List.set_cons_succ, List.getElem_toArray, List.getElem_cons_zero, List.getElem_cons_succ]
  refine AnyBut.gone (i := 4) (by kernel_rfl) rfl (by rfl) (fun K hK => ?_)
  go_simp
  (with_reducible refine (KN.out _ hi1 (Nat.le_trans HB.out hF1.size)).mono ?_)
  rintro e w2 ⟨rfl, hi2, hg⟩
  have hS := hS.grown hg HNc.out
  have hR2 := hR1.grown hg HN.out
  have hF2 := hF1.trans (Fr.of_grown hg (some rb))
  dsimp only
  refine hK _ _ (fun _ => hS) ?_
  clear hK K hg
  try simp only [Act.put, List.setIfInBounds_toArray, List.set_cons_zero, List.set_cons_succ, List.getElem_toArray, List.getElem_cons_zero, List.getElem_cons_succ]
  refine AnyBut.takeE (i := 5) (v := .int .u32 (n4 : Int)) rfl (by kernel_rfl) (by kernel_rfl) (by kernel_rfl) (by kernel_rfl) (fun _ _ _ h => h) (Or.inl ⟨by rfl, ?_⟩) hS ?_
  · intro wq hq
    go_simp
  try simp only [Act.put, List.setIfInBounds_toArray, List.set_cons_zero, List.set_cons_succ, List.getElem_toArray, List.getElem_cons_zero, List.getElem_cons_succ]
  refine AnyBut.gone (i := 6) (by kernel_rfl) rfl (by rfl) (fun K hK => ?_)
  refine wp_build54 (.tmp 6) (.tmp 9) rfl X n4 rfl rfl HLh.out ?_
  refine hK _ _ (fun _ => hS) ?_
  clear hK K
  try simp only [Act.put, List.setIfInBounds_toArray, List.set_cons_zero, List.set_cons_succ, List.getElem_toArray, List.getElem_cons_zero, List.getElem_cons_succ]
  refine AnyBut.takeE (i := 7) (v := ?_) rfl (by kernel_rfl) (by kernel_rfl) (by kernel_rfl) (by kernel_rfl) (fun _ _ _ h => h) (Or.inl ⟨by rfl, ?_⟩) hS ?_
  rotate_left
  · (intro wq hq; go_simp; try with_reducible rfl)
  try simp only [Act.put, List.setIfInBounds_toArray, List.set_cons_zero, List.set_cons_succ, List.getElem_toArray, List.getElem_cons_zero, List.getElem_cons_succ]
  refine AnyBut.takeE (i := 8) (v := ?_) rfl (by kernel_rfl) (by kernel_rfl) (by kernel_rfl) (by kernel_rfl) (fun _ _ _ h => h) (Or.inl ⟨by rfl, ?_⟩) hS ?_
  rotate_left
  · (intro wq hq; go_simp; try with_reducible rfl)
  try simp only [Act.put, List.setIfInBounds_toArray, List.set_cons_zero, List.set_cons_succ, List.getElem_toArray, List.getElem_cons_zero, List.getElem_cons_succ]
  have hcur : pre ++ (inV x0 (.slice none 0 0) (.slice none 0 0) ++ post) = pre ++ ((vbs x0.tx ++ [.int .u32 (x0.ix : Int)]) ++ ([.slice none 0 0, .int .u32 (x0.sq : Int), .slice none 0 0] ++ post)) := by simp [inV]
  have hlen : (pre ++ (inV x0 (.slice none 0 0) (.slice none 0 0) ++ post)).length = o + 36 + post.length := by rw [Ho.out]; simp [inV_len HX0.out]; omega
  have hth : w2.there rb o (ptV X n4).toArray.size := by rw [List.size_toArray, ptV_len HLh.out]; exact hR2.there_mid o 33 (by rw [hlen]; omega)
  have hif : (Tryd.prog.info? 54).map (·.size) = some (ptV X n4).toArray.size := by rw [List.size_toArray, ptV_len HLh.out]; exact info54
  have hR3 : Blk (w2.setCells rb o (ptV X n4)) rb 57 (pre ++ (ptV X n4 ++ ([.slice none 0 0, .int .u32 (x0.sq : Int), .slice none 0 0] ++ post))) := by
    have := hR2
    rw [hcur] at this
    rw [Ho.out]
    exact Blk.setCells_mid rb 57 (ptV X n4) _ pre _ w2 (by rw [ptV_len HLh.out]; simp [vbs_len, HX0.out]) this
  have hI3 : IsR (w2.setCells rb o (ptV X n4)) B p s2 := IsR.stores (by decide) (by decide) (ptV X n4) o w2 _ hR2 hi2
  have hF3 : Fr w (w2.setCells rb o (ptV X n4)) p (some rb) := Fr.stores w p rb (ptV X n4) o w2 hF2
  have hC3 : Blk (w2.setCells rb o (ptV X n4)) cb 50 [P] := Blk.other_setCells HX.out (ptV X n4) o w2 hS
  clear hcur hlen
  refine AnyBut.gone (i := 9) (by kernel_rfl) rfl (by rfl) (fun K hK => ?_)
  refine wp_store_mid 54 (.tmp 12) (.tmp 10) rfl rb o (ptV X n4).toArray rfl rfl hth hif (ptV_one X n4) ?_
  refine hK _ _ (fun _ => hC3) ?_
  clear hK K hth hif
  try simp only [Act.put, List.setIfInBounds_toArray, List.set_cons_zero, List.set_cons_succ, List.getElem_toArray, List.getElem_cons_zero, List.getElem_cons_succ]
  refine AnyBut.done (by kernel_rfl) ?_ _
  try dsimp only [Exit.then]
  clear hS hR2 hR1 hF1 hF2 hi1 hi2 hCd hRd hId hFd
  generalize w2.setCells rb o (ptV X n4) = w3 at hR3 hI3 hF3 hC3 ⊢
  obtain ⟨L3, hL3⟩ : ∃ L, L = pre ++ (ptV X n4 ++ ([.slice none 0 0, .int .u32 (x0.sq : Int), .slice none 0 0] ++ post)) := ⟨_, rfl⟩
  rw [← hL3] at hR3
  have hl3 : o + 36 ≤ L3.length := by rw [hL3, Ho.out]; simp [ptV_len HLh.out]; omega
  obtain ⟨y, hy⟩ : ∃ y, L3[o + 33]? = some y := ⟨_, List.getElem?_eq_getElem (by omega)⟩
  obtain ⟨z, hz⟩ : ∃ z, L3[o + 34]? = some z := ⟨_, List.getElem?_eq_getElem (by omega)⟩
  have HY3 := Lib.hid hy
  have HZ3 : Hid (∀ v, (L3.set (o + 33) v)[o + 34]? = some z) := fun v => by rw [List.getElem?_set_ne (by omega)]; exact hz
  have HL3 := Lib.hid hL3
  have HR3 := Lib.hid hR3
  have HI3 := Lib.hid hI3
  have HF3 := Lib.hid hF3
  have HC3 := Lib.hid hC3
  have c3 := hC3.cell (j := 0) (v := P) rfl
  have HB3 : Hid (B ≤ w3.heap.size) := Nat.le_trans HB.out hF3.size
  clear hL3 hR3 hI3 hF3 hC3 hl3 hy hz HC HR HI
  go_wp2_with (first
    | (go_at_call 58; go_loud ((with_reducible refine (KM.out _ HI5.out HB5.out).mono ?_); rintro e w6 ⟨rfl, hi6, hg6⟩; have hR6 := HR5.out.grown hg6 HN.out; have d2 := hR6.cell (HZ3.out _); have f2 := hR6.free (o + 34); have HS6 := Lib.hid (HS5.out.fr HI5.out HR5.out (by decide) (Fr.of_grown hg6 (some rb))); have HR6 := Lib.hid hR6; have HI6 := Lib.hid hi6; have HF6 := Lib.hid (HF5.out.trans (Fr.of_grown hg6 (some rb))); clear hi6 hg6 hR6 c2 KM; dsimp only))
    | (go_at_call 89; go_loud ((with_reducible refine (KT.out _ HI3.out HB3.out).mono ?_); rintro e w4 ⟨v, rfl, ho4, hi4, hg4⟩; obtain ⟨A, cap, rfl, hS4⟩ := ho4.own5; have hR4 := HR3.out.grown hg4 HN.out; have d1 := hR4.cell HY3.out; have f1 := hR4.free (o + 33); have fs4 := Fr.store w4 p rb (o + 33) (.slice A Y.length cap); have hsn : SlN w4 (.slice A Y.length cap) Y := ⟨A, cap, rfl, hS4⟩; have HS5 := Lib.hid (hsn.fr hi4 hR4 (by decide) fs4); have HI5 := Lib.hid (hi4.store hR4 (by decide) (by decide) (o + 33) (.slice A Y.length cap)); have HR5 := Lib.hid (hR4.set (o + 33) (.slice A Y.length cap)); have HF5 := Lib.hid ((HF3.out.trans (Fr.of_grown hg4 (some rb))).trans fs4); have c2 := ((HC3.out.grown hg4 HNc.out).other HX.out (a := ⟨rb, o + 33, none⟩) (.slice A Y.length cap)).cell (j := 0) rfl; have HB5 := Lib.hid (Nat.le_trans HB.out HF5.out.size); clear ho4 hi4 hg4 hS4 hR4 fs4 hsn c3 KT; dsimp only)))
  go_ret
  have fs7 := Fr.store w6 p rb (o + 34) (.int .u32 (m4 : Int))
  refine ⟨_, rfl, HS6.out.fr HI6.out HR6.out (by decide) fs7, ?_, HI6.out.store HR6.out (by decide) (by decide) _ _, HF6.out.trans fs7⟩
  have hfin := HR6.out.set (o + 34) (.int .u32 (m4 : Int))
  rw [HL3.out, Ho.out, set33 _ _ _ _ _ _ _ _ HLh.out, set34 _ _ _ _ _ _ _ _ HLh.out] at hfin
  have ei : pre ++ (inV ⟨X, n4, Y, m4, []⟩ (.slice A Y.length cap) (.slice none 0 0) ++ post) = pre ++ (ptV X n4 ++ ([.slice A Y.length cap, .int .u32 (m4 : Int), .slice none 0 0] ++ post)) := by simp [inV, ptV]
  rw [ei, Ho.out]
  exact hfin
open Go.RowKit
set_option linter.unusedVariables false
set_option linter.unusedSimpArgs false
set_option maxRecDepth 100000
def rOut (s : Option (List (BitVec 8))) : TOut := ⟨i64w (numV s 8), tL (numS s 8) 128⟩
/-- n outputs read of s: the error, the outputs, what is left. -/
def rO : Nat → Option (List (BitVec 8)) → Int × List TOut × Option (List (BitVec 8))
  | 0, s => (0, [], s)
  | n + 1, s => if tE (numS s 8) 128 = 0 then ((rO n (tS (numS s 8) 128)).1, rOut s :: (rO n (tS (numS s 8) 128)).2.1, (rO n (tS (numS s 8) 128)).2.2) else (tE (numS s 8) 128, [], tS (numS s 8) 128)
/-- Outputs' cells: each script is a slice of the program's own. -/
def OutsN (w : World) (vs : List Value) (ys : List TOut) : Prop := ∃ ss, SlNs w ss (ys.map TOut.sc) ∧ vs = (List.zipWith outV ys ss).flatten
theorem OutsN.nil (w : World) : OutsN w [] [] := ⟨[], SlNs.nil _, rfl⟩
theorem OutsN.snoc {w : World} {vs : List Value} {ys : List TOut} {v : Value} {y : TOut} (h : OutsN w vs ys) (hv : SlN w v y.sc) : OutsN w (vs ++ outV y v) (ys ++ [y]) := by
  obtain ⟨ss, hs, rfl⟩ := h
  refine ⟨ss ++ [v], by rw [List.map_append]; exact hs.snoc hv, ?_⟩
  have hl := hs.1
  rw [List.length_map] at hl
  rw [List.zipWith_append hl.symm]
  simp
theorem OutsN.fr {w w' : World} {vs : List Value} {ys : List TOut} {B b : Nat} {p : Option Nat} {s : Option (List (BitVec 8))} {T : TypeId} {us : List Value} (h : OutsN w vs ys) (hR : IsR w B p s) (hb : Blk w b T us) (hT : T ≠ 5) (hf : Fr w w' p (some b)) : OutsN w' vs ys := by
  obtain ⟨ss, hs, e⟩ := h
  exact ⟨ss, hs.fr hR hb hT hf, e⟩
def OutsPost (r : Int × List TOut × Option (List (BitVec 8))) (B rb : Nat) (p : Option Nat) (w0 : World) (w' : World) : Prop :=
  r.1 = 0 ∧ ∃ vs, OutsN w' vs r.2.1 ∧ Blk w' rb 43 vs ∧ IsR w' B p r.2.2 ∧ Fr w0 w' p (some rb)
theorem set_two (pre post : List Value) (a b x y : Value) (o : Nat) (ho : o = pre.length) : ((pre ++ (a :: b :: post)).set o x).set (o + 1) y = (pre ++ [x, y]) ++ post := by
  subst ho
  rw [List.set_append_right _ _ (Nat.le_refl _), Nat.sub_self]
  rw [List.set_append_right _ _ (by omega), show pre.length + 1 - pre.length = 1 by omega]
  simp
theorem outs_any (p : Option Nat) (s : Option (List (BitVec 8))) (B rb n cb cap : Nat) (w0 : World) (h : IsR w0 B p s) (hB : B ≤ w0.heap.size) (hl : Short s 100000000) (hc : Blk w0 cb 50 [ptr p]) (hr : Blk w0 rb 43 (List.replicate n [Value.int .i64 0, .slice none 0 0]).flatten) (hn : n ≤ 1000000) :
    Calls Tryd.prog 72 #[.slice (some ⟨rb, 0, none⟩) n cap, .func (.func 90) #[] #[.pointer (some ⟨cb, 0, none⟩)]] w0 (StepPost (OutsPost (rO n s) B rb p w0) (ErrPost (rO n s).1 (rO n s).2.2 B p (some rb) w0)) := by
  have hne : cb ≠ rb := hc.apart hr (by decide)
  refine (eachR_out (fun i w => ∃ (ys : List TOut) (s' : Option (List (BitVec 8))) (vs : List Value), vs.length = 2 * i ∧ rO n s = ((rO (n - i) s').1, ys ++ (rO (n - i) s').2.1, (rO (n - i) s').2.2) ∧ OutsN w vs ys ∧ Blk w rb 43 (vs ++ (List.replicate (n - i) [Value.int .i64 0, .slice none 0 0]).flatten) ∧ IsR w B p s' ∧ Fr w0 w p (some rb) ∧ Blk w cb 50 [ptr p] ∧ Short s' 100000000) (ErrPost (rO n s).1 (rO n s).2.2 B p (some rb) w0) (some ⟨rb, 0, none⟩) n cap rb 0 cb w0 (fun _ => rfl) hn ?_ ?_).mono ?_
  · rintro i hi wq ⟨ys, s', vs, hvl, hrO, hys, hb, hR, hF, hcb, hS⟩
    rw [Nat.zero_add]
    obtain ⟨k, hk⟩ : ∃ k, n - i = k + 1 := ⟨n - i - 1, by omega⟩
    have hk2 : n - (i + 1) = k := by omega
    rw [hk] at hrO hb
    rw [List.replicate_succ, List.flatten_cons] at hb
    refine (rdOut_any p s' B rb (i * 2) cb _ wq hR (Nat.le_trans hB hF.size) hS hcb hb (by simp; omega)).mono ?_
    rintro e w' ⟨v, rfl, hv, hb', hR', hF'⟩
    refine ⟨_, rfl, fun h0 => ?_, fun h0 => ?_⟩
    · rw [hk2]
      simp only [rO, h0, if_true] at hrO
      refine ⟨ys ++ [rOut s'], tS (numS s' 8) 128, vs ++ outV (rOut s') v, by simp [hvl, outV]; omega, ?_, (hys.fr hR hb (by decide) hF').snoc hv, ?_, hR', hF.trans hF', hcb.fr hF' (hR.ne hcb (by decide)) (fun e => hne (by injection e)), tS_short (numS_short hS _) _⟩
      · rw [hrO]; simp
      · have e1 := set_two vs (List.replicate k [Value.int .i64 0, .slice none 0 0]).flatten (.int .i64 0) (.slice none 0 0) (.int .i64 (i64w (numV s' 8))) v (i * 2) (by omega)
        have e2 : vs ++ ([Value.int .i64 0, .slice none 0 0] ++ (List.replicate k [Value.int .i64 0, .slice none 0 0]).flatten) = vs ++ (.int .i64 0 :: .slice none 0 0 :: (List.replicate k [Value.int .i64 0, .slice none 0 0]).flatten) := rfl
        rw [e2, e1] at hb'
        exact hb'
    · have e1 : rO n s = (tE (numS s' 8) 128, ys, tS (numS s' 8) 128) := by
        rw [hrO]; simp only [rO, h0, if_false, List.append_nil]
      rw [e1]
      exact ⟨rfl, hR', hF.trans hF'⟩
  · exact ⟨[], s, [], rfl, by simp, OutsN.nil _, by simpa using hr, h, Fr.refl _ _ _, hc, hl⟩
  · rintro e w' ⟨c, rfl, h0, h1⟩
    refine ⟨c, rfl, fun hc0 => ?_, h1⟩
    obtain ⟨ys, s', vs, hvl, hrO, hys, hb, hR, hF, _, _⟩ := h0 hc0
    rw [Nat.sub_self] at hrO hb
    simp only [rO, List.append_nil, List.replicate_zero, List.flatten_nil] at hrO hb
    rw [hrO]
    exact ⟨rfl, vs, hys, hb, hR, hF⟩
open Go.RowKit
set_option linter.unusedVariables false
set_option linter.unusedSimpArgs false
set_option maxRecDepth 100000
def In00 : TIn := ⟨Z32, 0, [], 0, []⟩
def zI0 : List Value := inV In00 (.slice none 0 0) (.slice none 0 0)
theorem zI0_len : zI0.length = 36 := inV_len rfl
theorem rInV_tx (s : Option (List (BitVec 8))) : (rInV s).tx.length = 32 := hashL_len s
/-- n inputs read of s, less their witnesses: the error, the inputs, what is left. -/
def rN : Nat → Option (List (BitVec 8)) → Int × List TIn × Option (List (BitVec 8))
  | 0, s => (0, [], s)
  | n + 1, s => if rInE s = 0 then ((rN n (rInS s)).1, rInV s :: (rN n (rInS s)).2.1, (rN n (rInS s)).2.2) else (rInE s, [], rInS s)
theorem rInS_short {s : Option (List (BitVec 8))} {k : Nat} (h : Short s k) : Short (rInS s) k := numS_short (tS_short (numS_short (cutS_short h _) _) _) _
/-- Inputs' cells, less their witnesses: each script is a slice of the program's own. -/
def InsN (w : World) (vs : List Value) (xs : List TIn) : Prop := ∃ ss, SlNs w ss (xs.map TIn.sc) ∧ vs = (List.zipWith (fun x u => inV x u (.slice none 0 0)) xs ss).flatten
theorem InsN.nil (w : World) : InsN w [] [] := ⟨[], SlNs.nil _, rfl⟩
theorem InsN.snoc {w : World} {vs : List Value} {xs : List TIn} {v : Value} {x : TIn} (h : InsN w vs xs) (hv : SlN w v x.sc) : InsN w (vs ++ inV x v (.slice none 0 0)) (xs ++ [x]) := by
  obtain ⟨ss, hs, rfl⟩ := h
  refine ⟨ss ++ [v], by rw [List.map_append]; exact hs.snoc hv, ?_⟩
  have hl := hs.1
  rw [List.length_map] at hl
  rw [List.zipWith_append hl.symm]
  simp
theorem InsN.fr {w w' : World} {vs : List Value} {xs : List TIn} {B b : Nat} {p : Option Nat} {s : Option (List (BitVec 8))} {T : TypeId} {us : List Value} (h : InsN w vs xs) (hR : IsR w B p s) (hb : Blk w b T us) (hT : T ≠ 5) (hf : Fr w w' p (some b)) : InsN w' vs xs := by
  obtain ⟨ss, hs, e⟩ := h
  exact ⟨ss, hs.fr hR hb hT hf, e⟩
def InsPost (r : Int × List TIn × Option (List (BitVec 8))) (B rb : Nat) (p : Option Nat) (w0 : World) (w' : World) : Prop :=
  r.1 = 0 ∧ ∃ vs, InsN w' vs r.2.1 ∧ Blk w' rb 57 vs ∧ IsR w' B p r.2.2 ∧ Fr w0 w' p (some rb)
theorem ins_any (p : Option Nat) (s : Option (List (BitVec 8))) (B rb n cb cap : Nat) (w0 : World) (h : IsR w0 B p s) (hB : B ≤ w0.heap.size) (hl : Short s 100000000) (hc : Blk w0 cb 50 [ptr p]) (hr : Blk w0 rb 57 (List.replicate n zI0).flatten) (hn : n ≤ 1000000) :
    Calls Tryd.prog 69 #[.slice (some ⟨rb, 0, none⟩) n cap, .func (.func 87) #[] #[.pointer (some ⟨cb, 0, none⟩)]] w0 (StepPost (InsPost (rN n s) B rb p w0) (ErrPost (rN n s).1 (rN n s).2.2 B p (some rb) w0)) := by
  have hne : cb ≠ rb := hc.apart hr (by decide)
  refine (eachR_in (fun i w => ∃ (ys : List TIn) (s' : Option (List (BitVec 8))) (vs : List Value), vs.length = 36 * i ∧ rN n s = ((rN (n - i) s').1, ys ++ (rN (n - i) s').2.1, (rN (n - i) s').2.2) ∧ InsN w vs ys ∧ Blk w rb 57 (vs ++ (List.replicate (n - i) zI0).flatten) ∧ IsR w B p s' ∧ Fr w0 w p (some rb) ∧ Blk w cb 50 [ptr p] ∧ Short s' 100000000) (ErrPost (rN n s).1 (rN n s).2.2 B p (some rb) w0) (some ⟨rb, 0, none⟩) n cap rb 0 cb w0 (fun _ => rfl) hn ?_ ?_).mono ?_
  · rintro i hi wq ⟨ys, s', vs, hvl, hrO, hys, hb, hR, hF, hcb, hS⟩
    obtain ⟨k, hk⟩ : ∃ k, n - i = k + 1 := ⟨n - i - 1, by omega⟩
    have hk2 : n - (i + 1) = k := by omega
    rw [hk] at hrO hb
    rw [List.replicate_succ, List.flatten_cons] at hb
    rw [show 0 + i * 36 = vs.length by omega]
    refine (rdIn_any p s' B rb cb In00 vs (List.replicate k zI0).flatten wq hR (Nat.le_trans hB hF.size) hS hcb rfl hb).mono ?_
    rintro e w' ⟨v, rfl, hv, hb', hR', hF'⟩
    refine ⟨_, rfl, fun h0 => ?_, fun h0 => ?_⟩
    · rw [hk2]
      simp only [rN, h0, if_true] at hrO
      refine ⟨ys ++ [rInV s'], rInS s', vs ++ inV (rInV s') v (.slice none 0 0), by rw [List.length_append, inV_len (rInV_tx s')]; omega, ?_, (hys.fr hR hb (by decide) hF').snoc hv, ?_, hR', hF.trans hF', hcb.fr hF' (hR.ne hcb (by decide)) (fun e => hne (by injection e)), rInS_short hS⟩
      · rw [hrO]; simp
      · rw [List.append_assoc]
        exact hb'
    · have e1 : rN n s = (rInE s', ys, rInS s') := by
        rw [hrO]; simp only [rN, h0, if_false, List.append_nil]
      rw [e1]
      exact ⟨rfl, hR', hF.trans hF'⟩
  · exact ⟨[], s, [], rfl, by simp, InsN.nil _, by simpa using hr, h, Fr.refl _ _ _, hc, hl⟩
  · rintro e w' ⟨c, rfl, h0, h1⟩
    refine ⟨c, rfl, fun hc0 => ?_, h1⟩
    obtain ⟨ys, s', vs, hvl, hrO, hys, hb, hR, hF, _, _⟩ := h0 hc0
    rw [Nat.sub_self] at hrO hb
    simp only [rN, List.append_nil, List.replicate_zero, List.flatten_nil] at hrO hb
    rw [hrO]
    exact ⟨rfl, vs, hys, hb, hR, hF⟩
open Go.RowKit
set_option linter.unusedVariables false
set_option linter.unusedSimpArgs false
set_option maxRecDepth 100000
theorem info57z : (Tryd.prog.info? 57).map (fun i => (i.zero, i.size)) = some (some (.agg zI0.toArray), 36) := by kernel_rfl
theorem info57b : (Tryd.prog.info? 57).all (fun i => decide (i.bytes ≤ 1000)) = true := by kernel_rfl
theorem range_flatten {α : Type} (f : Nat → α) (k : Nat) (L : List α) (hL : (List.range k).map f = L) (hp : ∀ i, f (k + i) = f i) : ∀ n, (List.range (n * k)).map f = (List.replicate n L).flatten
  | 0 => by simp
  | n + 1 => by
    rw [Nat.succ_mul, Nat.add_comm, List.range_add, List.map_append, hL, List.map_map, List.replicate_succ, List.flatten_cons, ← range_flatten f k L hL hp n]
    congr 1
    apply List.map_congr_left
    intro i _
    exact hp i
theorem made_in (n : Nat) (hn : n ≤ 16) : madeCells zI0.toArray (n * 36) = (List.replicate n zI0).flatten.toArray := by
  apply Array.toList_inj.1
  have hf : ∀ m, (madeCells zI0.toArray m).toList = (List.range m).map fun i => zI0.toArray[i % zI0.toArray.size]! := by
    intro m
    unfold madeCells
    rw [Array.toList_map, Array.toList_range]
  have hs : zI0.toArray.size = 36 := zI0_len
  rw [hf, range_flatten _ 36 zI0 (by kernel_rfl) (fun i => by rw [hs, Nat.add_mod_left]) n]
theorem make_in (n : Nat) (hn : n ≤ 16) (w : World) : (Instr.makeSlice 23 (.int .i64 (n : Int)) (.int .i64 (n : Int))).run Tryd.prog w = .ok (.slice (some ⟨w.heap.size, 0, none⟩) n n) (w.alloc (.cells (List.replicate n zI0).flatten.toArray 57)) := by
  obtain ⟨i0, hi, hz, hb⟩ : ∃ i, Tryd.prog.info? 57 = some i ∧ (i.zero, i.size) = (some (.agg zI0.toArray), 36) ∧ i.bytes ≤ 1000 := by
    have h1 := info57z
    have h2 := info57b
    cases h : Tryd.prog.info? 57 with
    | none => rw [h] at h1; cases h1
    | some i => rw [h] at h1 h2; exact ⟨i, rfl, by simpa using h1, by simpa using h2⟩
  injection hz with hz0 hz1
  have hbn : (i0.bytes : Int) * (n : Int) ≤ 281474976710656 := by
    have : i0.bytes * n ≤ 1000 * 16 := Nat.mul_le_mul hb hn
    have h2 : ((i0.bytes * n : Nat) : Int) ≤ 281474976710656 := by omega
    rwa [Int.natCast_mul] at h2
  have hr := run_make (P := Tryd.prog) w 23 57 i0 (.agg zI0.toArray) Tryd.underlying23 hi hz0 .i64 .i64 (n : Int) (n : Int) (by omega) (by omega) hbn (by omega)
  rw [hr, show ((n : Int)).toNat = n by omega, hz1, show (Value.agg zI0.toArray).cells = zI0.toArray from rfl, made_in n hn]
theorem pE0 {s : Option (List (BitVec 8))} (h : pE s = 0) : pN s ≤ 16 := by
  unfold pE at h
  by_cases hg : gE s 16 = 0
  · have := gE_ne s 16 hg
    unfold pN gV
    rw [if_pos hg]
    exact this
  · rw [if_neg hg] at h; exact absurd h hg
theorem rN_len : ∀ (n : Nat) (s : Option (List (BitVec 8))), (rN n s).1 = 0 → (rN n s).2.1.length = n
  | 0, _, _ => rfl
  | n + 1, s, h => by
    by_cases h0 : rInE s = 0
    · simp only [rN, h0, if_true] at h ⊢
      simp [rN_len n _ h]
    · simp only [rN, h0, if_false] at h
/-- The inputs that s begins with, with their number ahead. -/
def rIns (s : Option (List (BitVec 8))) : Int × List TIn × Option (List (BitVec 8)) := if pE s = 0 then rN (pN s) (gS s) else (pE s, [], gS s)
def InsOut (r : Int × List TIn × Option (List (BitVec 8))) (B : Nat) (p : Option Nat) (w : World) (e : Ending) (w' : World) : Prop :=
  ∃ A n cap c, e = .returned (.tuple #[.slice A n cap, .int .i64 c]) ∧ r.1 = c ∧ IsR w' B p r.2.2 ∧ w.grownBy w' p ∧ (c = 0 → ∃ rb vs, A = some ⟨rb, 0, none⟩ ∧ r.2.1.length = n ∧ cap = n ∧ InsN w' vs r.2.1 ∧ Blk w' rb 57 vs ∧ w.heap.size ≤ rb)
set_option maxHeartbeats 1000000 in
theorem parsedIns_any (p : Option Nat) (s : Option (List (BitVec 8))) (B : Nat) (w : World) (h : IsR w B p s) (hB : B ≤ w.heap.size) (hl : Short s 100000000) :
    Calls Tryd.prog 61 #[ptr p] w (InsOut (rIns s) B p w) := by
  obtain ⟨q, hP⟩ : ∃ q, Value.pointer q = ptr p := ⟨_, rfl⟩
  have hW : Below w.heap.size w (w.alloc (.cells #[.pointer q] 50)) := (Below.refl _ _).alloc (Nat.le_refl _) _
  have hcb := Blk.new w 50 #[.pointer q]
  have c0 := hcb.cell (j := 0) (v := .pointer q) rfl
  have hA := h.below hW hB
  have K := Lib.hid (parsedCount_any p s B _ hA (Nat.le_trans hB hW.size))
  have HNc := Lib.hid (hA.ne hcb (by decide))
  have HC := Lib.hid hcb
  have HB := Lib.hid hB
  have HL := Lib.hid (gS_short hl)
  have HP := Lib.hid hP
  have HFA : Hid (w.grownBy (w.alloc (.cells #[.pointer q] 50)) p) := ⟨hW.os, hW.tape, hW.output, hW.size, fun k hk _ => hW.block k hk⟩
  rw [← hP] at K ⊢
  by_cases he : pE s = 0
  · have hn := pE0 he
    have eW : rIns s = rN (pN s) (gS s) := by unfold rIns; rw [if_pos he]
    rw [eW]
    rw [he] at K
    obtain ⟨n, hnn⟩ : ∃ n, n = pN s := ⟨_, rfl⟩
    obtain ⟨s1, hs1⟩ : ∃ s', s' = gS s := ⟨_, rfl⟩
    rw [← hnn, ← hs1] at K ⊢
    rw [← hnn] at hn
    rw [← hs1] at HL
    have HLn := Lib.hid (rN_len n s1)
    obtain ⟨C, hC⟩ : ∃ C, C = (List.replicate n zI0).flatten.toArray := ⟨_, rfl⟩
    have hM := make_in n hn
    rw [← hC] at hM
    have HN := Lib.hid hn
    have HCe : Hid (C.toList = (List.replicate n zI0).flatten) := by rw [hC]; rfl
    clear h hB hl hA hW hcb he eW hnn hs1 hC hn hP
    go_enter Tryd.func61, Tryd.ntmps61
    go_wp2_with (first
      | (go_at_call 69; go_loud ((with_reducible refine K2.out.mono ?_); rintro e w2 hpost; have HPo := Lib.hid hpost; obtain ⟨c, rfl, _, _⟩ := hpost; clear K2; dsimp only))
      | (go_at_call 86; go_loud ((with_reducible refine K.out.mono ?_); rintro e w1 ⟨rfl, hi, hg⟩; have hc1 := HC.out.grown hg HNc.out; have hBw1 : B ≤ w1.heap.size := Nat.le_trans HB.out (Nat.le_trans HFA.out.size hg.size); have c1 := hc1.cell (j := 0) (v := .pointer q) rfl; have hb1 : Below w1.heap.size w1 (w1.alloc (.cells C 57)) := (Below.refl _ _).alloc (Nat.le_refl _) _; have hnew := Blk.new w1 57 C; have hcA := hc1.alloc (.cells C 57); have hiA := hi.below hb1 hBw1; have K2 := Lib.hid (ins_any p s1 B w1.heap.size n w.heap.size n _ hiA (Nat.le_trans hBw1 hb1.size) HL.out (by rw [← HP.out]; exact hcA) (by rw [← HCe.out]; exact hnew) (by have := HN.out; omega)); have HG := Lib.hid (Eq.refl w1); have HF : Hid (w.grownBy (w1.alloc (.cells C 57)) p) := ⟨hb1.os.trans (hg.os.trans HFA.out.os), hb1.tape.trans (hg.tape.trans HFA.out.tape), hb1.output.trans (hg.output.trans HFA.out.output), Nat.le_trans (Nat.le_trans HFA.out.size hg.size) hb1.size, fun k hk hp => (hb1.block k (Nat.lt_of_lt_of_le hk (Nat.le_trans HFA.out.size hg.size))).trans ((hg.block k (Nat.lt_of_lt_of_le hk HFA.out.size) hp).trans (HFA.out.block k hk hp))⟩; have HSz := Lib.hid (Nat.le_trans HFA.out.size hg.size); clear hi hg hc1 hb1 hnew hcA hiA K c0; dsimp only)))
    go_ret2
    obtain ⟨c', ec, h0, h1⟩ := HPo.out
    obtain rfl : c = c' := by injection ec with ec; injection ec
    by_cases hc : c = 0
    · obtain ⟨hr0, vs, hsl, hb, hR, hF⟩ := h0 hc
      exact ⟨_, _, _, c, rfl, by rw [hr0, hc], hR, Fr.grown HF.out hF HSz.out, fun _ => ⟨w1.heap.size, vs, rfl, HLn.out hr0, rfl, hsl, hb, HSz.out⟩⟩
    · obtain ⟨hr0, hR, hF⟩ := h1 hc
      exact ⟨_, _, _, c, rfl, hr0, hR, Fr.grown HF.out hF HSz.out, fun h => absurd h hc⟩
  · have eW : rIns s = (pE s, [], gS s) := by unfold rIns; rw [if_neg he]
    rw [eW]
    obtain ⟨c, hcE⟩ : ∃ c, c = pE s := ⟨_, rfl⟩
    rw [← hcE] at K he ⊢
    obtain ⟨s1, hs1⟩ : ∃ s', s' = gS s := ⟨_, rfl⟩
    rw [← hs1] at K ⊢
    obtain ⟨n, hnn⟩ : ∃ n, n = pN s := ⟨_, rfl⟩
    rw [← hnn] at K
    have hc0 : (c != 0) = true := by simpa using he
    have HE := Lib.hid he
    clear h hB hl hA hW hcb he eW hcE hs1 hnn hP
    go_enter Tryd.func61, Tryd.ntmps61
    go_wp2_with (go_at_call 86; (with_reducible refine K.out.mono ?_); rintro e w1 ⟨rfl, hi, hg⟩; have HI := Lib.hid hi; have HG : Hid (w.grownBy w1 p) := (grown_trans HFA.out hg); clear hi hg K c0; dsimp only)
    go_ret2
    exact ⟨_, _, _, c, rfl, rfl, HI.out, HG.out, fun h => absurd h HE.out⟩
open Go.RowKit
set_option linter.unusedVariables false
set_option linter.unusedSimpArgs false
set_option maxRecDepth 100000
def zOut : List Value := [.int .i64 0, .slice none 0 0]
theorem zOut_len : zOut.length = 2 := rfl
theorem info43z : (Tryd.prog.info? 43).map (fun i => (i.zero, i.size)) = some (some (.agg zOut.toArray), 2) := by kernel_rfl
theorem info43b : (Tryd.prog.info? 43).all (fun i => decide (i.bytes ≤ 1000)) = true := by kernel_rfl
theorem made_out (n : Nat) (hn : n ≤ 16) : madeCells zOut.toArray (n * 2) = (List.replicate n zOut).flatten.toArray := by
  apply Array.toList_inj.1
  have hf : ∀ m, (madeCells zOut.toArray m).toList = (List.range m).map fun i => zOut.toArray[i % zOut.toArray.size]! := by
    intro m
    unfold madeCells
    rw [Array.toList_map, Array.toList_range]
  have hs : zOut.toArray.size = 2 := zOut_len
  rw [hf, range_flatten _ 2 zOut (by kernel_rfl) (fun i => by rw [hs, Nat.add_mod_left]) n]
theorem make_out (n : Nat) (hn : n ≤ 16) (w : World) : (Instr.makeSlice 24 (.int .i64 (n : Int)) (.int .i64 (n : Int))).run Tryd.prog w = .ok (.slice (some ⟨w.heap.size, 0, none⟩) n n) (w.alloc (.cells (List.replicate n zOut).flatten.toArray 43)) := by
  obtain ⟨i0, hi, hz, hb⟩ : ∃ i, Tryd.prog.info? 43 = some i ∧ (i.zero, i.size) = (some (.agg zOut.toArray), 2) ∧ i.bytes ≤ 1000 := by
    have h1 := info43z
    have h2 := info43b
    cases h : Tryd.prog.info? 43 with
    | none => rw [h] at h1; cases h1
    | some i => rw [h] at h1 h2; exact ⟨i, rfl, by simpa using h1, by simpa using h2⟩
  injection hz with hz0 hz1
  have hbn : (i0.bytes : Int) * (n : Int) ≤ 281474976710656 := by
    have : i0.bytes * n ≤ 1000 * 16 := Nat.mul_le_mul hb hn
    have h2 : ((i0.bytes * n : Nat) : Int) ≤ 281474976710656 := by omega
    rwa [Int.natCast_mul] at h2
  have hr := run_make (P := Tryd.prog) w 24 43 i0 (.agg zOut.toArray) Tryd.underlying24 hi hz0 .i64 .i64 (n : Int) (n : Int) (by omega) (by omega) hbn (by omega)
  rw [hr, show ((n : Int)).toNat = n by omega, hz1, show (Value.agg zOut.toArray).cells = zOut.toArray from rfl, made_out n hn]
theorem rO_len : ∀ (n : Nat) (s : Option (List (BitVec 8))), (rO n s).1 = 0 → (rO n s).2.1.length = n
  | 0, _, _ => rfl
  | n + 1, s, h => by
    by_cases h0 : tE (numS s 8) 128 = 0
    · simp only [rO, h0, if_true] at h ⊢
      simp [rO_len n _ h]
    · simp only [rO, h0, if_false] at h
/-- The outputs that s begins with, with their number ahead. -/
def rOuts (s : Option (List (BitVec 8))) : Int × List TOut × Option (List (BitVec 8)) := if pE s = 0 then rO (pN s) (gS s) else (pE s, [], gS s)
def OutsOut (r : Int × List TOut × Option (List (BitVec 8))) (B : Nat) (p : Option Nat) (w : World) (e : Ending) (w' : World) : Prop :=
  ∃ A n cap c, e = .returned (.tuple #[.slice A n cap, .int .i64 c]) ∧ r.1 = c ∧ IsR w' B p r.2.2 ∧ w.grownBy w' p ∧ (c = 0 → ∃ rb vs, A = some ⟨rb, 0, none⟩ ∧ r.2.1.length = n ∧ cap = n ∧ OutsN w' vs r.2.1 ∧ Blk w' rb 43 vs ∧ w.heap.size ≤ rb)
set_option maxHeartbeats 1000000 in
theorem parsedOuts_any (p : Option Nat) (s : Option (List (BitVec 8))) (B : Nat) (w : World) (h : IsR w B p s) (hB : B ≤ w.heap.size) (hl : Short s 100000000) :
    Calls Tryd.prog 62 #[ptr p] w (OutsOut (rOuts s) B p w) := by
  obtain ⟨q, hP⟩ : ∃ q, Value.pointer q = ptr p := ⟨_, rfl⟩
  have hW : Below w.heap.size w (w.alloc (.cells #[.pointer q] 50)) := (Below.refl _ _).alloc (Nat.le_refl _) _
  have hcb := Blk.new w 50 #[.pointer q]
  have c0 := hcb.cell (j := 0) (v := .pointer q) rfl
  have hA := h.below hW hB
  have K := Lib.hid (parsedCount_any p s B _ hA (Nat.le_trans hB hW.size))
  have HNc := Lib.hid (hA.ne hcb (by decide))
  have HC := Lib.hid hcb
  have HB := Lib.hid hB
  have HL := Lib.hid (gS_short hl)
  have HP := Lib.hid hP
  have HFA : Hid (w.grownBy (w.alloc (.cells #[.pointer q] 50)) p) := ⟨hW.os, hW.tape, hW.output, hW.size, fun k hk _ => hW.block k hk⟩
  rw [← hP] at K ⊢
  by_cases he : pE s = 0
  · have hn := pE0 he
    have eW : rOuts s = rO (pN s) (gS s) := by unfold rOuts; rw [if_pos he]
    rw [eW]
    rw [he] at K
    obtain ⟨n, hnn⟩ : ∃ n, n = pN s := ⟨_, rfl⟩
    obtain ⟨s1, hs1⟩ : ∃ s', s' = gS s := ⟨_, rfl⟩
    rw [← hnn, ← hs1] at K ⊢
    rw [← hnn] at hn
    rw [← hs1] at HL
    have HLn := Lib.hid (rO_len n s1)
    obtain ⟨C, hC⟩ : ∃ C, C = (List.replicate n zOut).flatten.toArray := ⟨_, rfl⟩
    have hM := make_out n hn
    rw [← hC] at hM
    have HN := Lib.hid hn
    have HCe : Hid (C.toList = (List.replicate n zOut).flatten) := by rw [hC]; rfl
    clear h hB hl hA hW hcb he eW hnn hs1 hC hn hP
    go_enter Tryd.func62, Tryd.ntmps62
    go_wp2_with (first
      | (go_at_call 72; go_loud ((with_reducible refine K2.out.mono ?_); rintro e w2 hpost; have HPo := Lib.hid hpost; obtain ⟨c, rfl, _, _⟩ := hpost; clear K2; dsimp only))
      | (go_at_call 86; go_loud ((with_reducible refine K.out.mono ?_); rintro e w1 ⟨rfl, hi, hg⟩; have hc1 := HC.out.grown hg HNc.out; have hBw1 : B ≤ w1.heap.size := Nat.le_trans HB.out (Nat.le_trans HFA.out.size hg.size); have c1 := hc1.cell (j := 0) (v := .pointer q) rfl; have hb1 : Below w1.heap.size w1 (w1.alloc (.cells C 43)) := (Below.refl _ _).alloc (Nat.le_refl _) _; have hnew := Blk.new w1 43 C; have hcA := hc1.alloc (.cells C 43); have hiA := hi.below hb1 hBw1; have K2 := Lib.hid (outs_any p s1 B w1.heap.size n w.heap.size n _ hiA (Nat.le_trans hBw1 hb1.size) HL.out (by rw [← HP.out]; exact hcA) (by have hz := hnew; rw [HCe.out] at hz; exact hz) (by have := HN.out; omega)); have HG := Lib.hid (Eq.refl w1); have HF : Hid (w.grownBy (w1.alloc (.cells C 43)) p) := ⟨hb1.os.trans (hg.os.trans HFA.out.os), hb1.tape.trans (hg.tape.trans HFA.out.tape), hb1.output.trans (hg.output.trans HFA.out.output), Nat.le_trans (Nat.le_trans HFA.out.size hg.size) hb1.size, fun k hk hp => (hb1.block k (Nat.lt_of_lt_of_le hk (Nat.le_trans HFA.out.size hg.size))).trans ((hg.block k (Nat.lt_of_lt_of_le hk HFA.out.size) hp).trans (HFA.out.block k hk hp))⟩; have HSz := Lib.hid (Nat.le_trans HFA.out.size hg.size); clear hi hg hc1 hb1 hnew hcA hiA K c0; dsimp only)))
    go_ret2
    obtain ⟨c', ec, h0, h1⟩ := HPo.out
    obtain rfl : c = c' := by injection ec with ec; injection ec
    by_cases hc : c = 0
    · obtain ⟨hr0, vs, hsl, hb, hR, hF⟩ := h0 hc
      exact ⟨_, _, _, c, rfl, by rw [hr0, hc], hR, Fr.grown HF.out hF HSz.out, fun _ => ⟨w1.heap.size, vs, rfl, HLn.out hr0, rfl, hsl, hb, HSz.out⟩⟩
    · obtain ⟨hr0, hR, hF⟩ := h1 hc
      exact ⟨_, _, _, c, rfl, hr0, hR, Fr.grown HF.out hF HSz.out, fun h => absurd h hc⟩
  · have eW : rOuts s = (pE s, [], gS s) := by unfold rOuts; rw [if_neg he]
    rw [eW]
    obtain ⟨c, hcE⟩ : ∃ c, c = pE s := ⟨_, rfl⟩
    rw [← hcE] at K he ⊢
    obtain ⟨s1, hs1⟩ : ∃ s', s' = gS s := ⟨_, rfl⟩
    rw [← hs1] at K ⊢
    obtain ⟨n, hnn⟩ : ∃ n, n = pN s := ⟨_, rfl⟩
    rw [← hnn] at K
    have hc0 : (c != 0) = true := by simpa using he
    have HE := Lib.hid he
    clear h hB hl hA hW hcb he eW hcE hs1 hnn hP
    go_enter Tryd.func62, Tryd.ntmps62
    go_wp2_with (go_at_call 86; (with_reducible refine K.out.mono ?_); rintro e w1 ⟨rfl, hi, hg⟩; have HI := Lib.hid hi; have HG : Hid (w.grownBy w1 p) := (grown_trans HFA.out hg); clear hi hg K c0; dsimp only)
    go_ret2
    exact ⟨_, _, _, c, rfl, rfl, HI.out, HG.out, fun h => absurd h HE.out⟩
open Go.RowKit
set_option linter.unusedVariables false
set_option linter.unusedSimpArgs false
set_option maxRecDepth 100000
/-- A witness: none yet, or slices of the program's own. -/
def WitN (w : World) (u : Value) (Ls : List (List (BitVec 8))) : Prop := (u = .slice none 0 0 ∧ Ls = []) ∨ WsN w u Ls
/-- An input's cells lead to what is the program's own. -/
def InN (w : World) (x : TIn) (v u : Value) : Prop := SlN w v x.sc ∧ WitN w u x.wt
def InsW (w : World) : List TIn → List Value → Prop
  | [], vs => vs = []
  | x :: xs, vs => ∃ v u r, vs = inV x v u ++ r ∧ InN w x v u ∧ InsW w xs r
theorem WsN.fr {w w' : World} {u : Value} {Ls : List (List (BitVec 8))} {B b : Nat} {p : Option Nat} {s : Option (List (BitVec 8))} {T : TypeId} {us : List Value} (h : WsN w u Ls) (hR : IsR w B p s) (hb : Blk w b T us) (hT : T ≠ 5) (hT2 : T ≠ 27) (hf : Fr w w' p (some b)) : WsN w' u Ls := by
  obtain ⟨ib, vs, e, hi, hs⟩ := h
  exact ⟨ib, vs, e, hi.fr hf (hR.ne hi (by decide)) (fun e => by injection e with e; exact (hi.apart hb (fun e => hT2 e.symm)) e), hs.fr hR hb hT hf⟩
theorem InN.fr {w w' : World} {x : TIn} {v u : Value} {B b : Nat} {p : Option Nat} {s : Option (List (BitVec 8))} {T : TypeId} {us : List Value} (h : InN w x v u) (hR : IsR w B p s) (hb : Blk w b T us) (hT : T ≠ 5) (hT2 : T ≠ 27) (hf : Fr w w' p (some b)) : InN w' x v u :=
  ⟨h.1.fr hR hb hT hf, h.2.imp id fun h => h.fr hR hb hT hT2 hf⟩
theorem InsW.fr {w w' : World} {B b : Nat} {p : Option Nat} {s : Option (List (BitVec 8))} {T : TypeId} {us : List Value} (hR : IsR w B p s) (hb : Blk w b T us) (hT : T ≠ 5) (hT2 : T ≠ 27) (hf : Fr w w' p (some b)) : ∀ {xs : List TIn} {vs : List Value}, InsW w xs vs → InsW w' xs vs
  | [], _, h => h
  | x :: xs, _, ⟨v, u, r, e, hi, hr⟩ => ⟨v, u, r, e, hi.fr hR hb hT hT2 hf, InsW.fr hR hb hT hT2 hf hr⟩
theorem InsW.app {w : World} : ∀ {xs ys : List TIn} {vs ws : List Value}, InsW w xs vs → InsW w ys ws → InsW w (xs ++ ys) (vs ++ ws)
  | [], _, _, _, h, h2 => by cases h; exact h2
  | x :: xs, ys, _, ws, ⟨v, u, r, e, hi, hr⟩, h2 => ⟨v, u, r ++ ws, by rw [e, List.append_assoc], hi, hr.app h2⟩
theorem InsW.len {w : World} : ∀ {xs : List TIn} {vs : List Value}, (∀ x ∈ xs, x.tx.length = 32) → InsW w xs vs → vs.length = 36 * xs.length
  | [], _, _, h => by cases h; rfl
  | x :: xs, _, h32, ⟨v, u, r, e, hi, hr⟩ => by
    rw [e, List.length_append, inV_len (h32 x (by simp)), hr.len (fun y hy => h32 y (by simp [hy])), List.length_cons]; omega
theorem SlNs.cons {w : World} {v : Value} {vs : List Value} {L : List (BitVec 8)} {Ls : List (List (BitVec 8))} (h : SlNs w (v :: vs) (L :: Ls)) : SlN w v L ∧ SlNs w vs Ls :=
  ⟨h.2 0 v rfl, by have := h.1; simpa using this, fun j u hj => h.2 (j + 1) u hj⟩
theorem InsW.of {w : World} : ∀ (xs : List TIn) (ss : List Value), SlNs w ss (xs.map TIn.sc) → (∀ x ∈ xs, x.wt = []) → InsW w xs (List.zipWith (fun x u => inV x u (.slice none 0 0)) xs ss).flatten
  | [], _, _, _ => by simp [InsW]
  | x :: xs, [], h, _ => by have := h.1; simp at this
  | x :: xs, s :: ss, h, hw => by
    obtain ⟨h1, h2⟩ := SlNs.cons h
    exact ⟨s, .slice none 0 0, _, by simp, ⟨h1, Or.inl ⟨rfl, hw x (by simp)⟩⟩, InsW.of xs ss h2 fun y hy => hw y (by simp [hy])⟩
theorem InsN.w {w : World} {vs : List Value} {xs : List TIn} (h : InsN w vs xs) (hw : ∀ x ∈ xs, x.wt = []) : InsW w xs vs := by
  obtain ⟨ss, hs, rfl⟩ := h
  exact InsW.of xs ss hs hw
theorem rI_short {k : Nat} : ∀ (n : Nat) (s : Option (List (BitVec 8))), Short s k → Short (rI n s).2.2 k
  | 0, _, h => h
  | n + 1, s, h => by
    by_cases h0 : tE s 128 = 0
    · simp only [rI, h0, if_true]; exact rI_short n _ (tS_short h _)
    · simp only [rI, h0, if_false]; exact tS_short h _
theorem rW_short {s : Option (List (BitVec 8))} {k : Nat} (h : Short s k) : Short (rW s).2.2 k := by
  unfold rW
  split
  · exact rI_short _ _ (gS_short h)
  · exact gS_short h
/-- The witnesses of n inputs read of s: the error, the witnesses, what is left. -/
def rX : Nat → Option (List (BitVec 8)) → Int × List (List (List (BitVec 8))) × Option (List (BitVec 8))
  | 0, s => (0, [], s)
  | n + 1, s => if (rW s).1 = 0 then ((rX n (rW s).2.2).1, (rW s).2.1 :: (rX n (rW s).2.2).2.1, (rX n (rW s).2.2).2.2) else ((rW s).1, [], (rW s).2.2)
def wW (xs : List TIn) (Ls : List (List (List (BitVec 8)))) : List TIn := List.zipWith (fun x L => ⟨x.tx, x.ix, x.sc, x.sq, L⟩) xs Ls
theorem wW_len (xs : List TIn) (Ls : List (List (List (BitVec 8)))) : (wW xs Ls).length = min xs.length Ls.length := by simp [wW]
theorem wW_32 : ∀ (xs : List TIn) (Ls : List (List (List (BitVec 8)))), (∀ x ∈ xs, x.tx.length = 32) → ∀ x ∈ wW xs Ls, x.tx.length = 32
  | [], _, _, x, hx => by simp [wW] at hx
  | _ :: _, [], _, x, hx => by simp [wW] at hx
  | y :: ys, L :: Ls, h, x, hx => by
    have hx : x ∈ (⟨y.tx, y.ix, y.sc, y.sq, L⟩ : TIn) :: wW ys Ls := hx
    rcases List.mem_cons.1 hx with rfl | hx
    · exact h y (by simp)
    · exact wW_32 ys Ls (fun z hz => h z (by simp [hz])) x hx
theorem set35 (pre post : List Value) (x : TIn) (v u u' : Value) (o : Nat) (ho : o = pre.length) (h : x.tx.length = 32) : (pre ++ (inV x v u ++ post)).set (o + 35) u' = pre ++ (inV x v u' ++ post) := by
  subst ho
  rw [List.set_append_right _ _ (by omega), show pre.length + 35 - pre.length = 35 by omega]
  unfold inV
  rw [List.append_assoc, List.append_assoc, List.set_append_right _ _ (by rw [vbs_len, h]; omega), vbs_len, h]
  rfl
def XPost (r : Int × List (List (List (BitVec 8))) × Option (List (BitVec 8))) (xs : List TIn) (B rb : Nat) (p : Option Nat) (w0 : World) (w' : World) : Prop :=
  r.1 = 0 ∧ r.2.1.length = xs.length ∧ ∃ vs, InsW w' (wW xs r.2.1) vs ∧ Blk w' rb 57 vs ∧ IsR w' B p r.2.2 ∧ Fr w0 w' p (some rb)
theorem witsR_any (p : Option Nat) (s : Option (List (BitVec 8))) (B rb n cb cap : Nat) (xs : List TIn) (vs0 : List Value) (w0 : World) (h : IsR w0 B p s) (hB : B ≤ w0.heap.size) (hl : Short s 100000000) (hc : Blk w0 cb 50 [ptr p]) (hr : Blk w0 rb 57 vs0) (hx : InsW w0 xs vs0) (hxn : xs.length = n) (hn : n ≤ 1000000) (h32 : ∀ x ∈ xs, x.tx.length = 32) :
    Calls Tryd.prog 69 #[.slice (some ⟨rb, 0, none⟩) n cap, .func (.func 91) #[] #[.pointer (some ⟨cb, 0, none⟩)]] w0 (StepPost (XPost (rX n s) xs B rb p w0) (ErrPost (rX n s).1 (rX n s).2.2 B p (some rb) w0)) := by
  have hne : cb ≠ rb := hc.apart hr (by decide)
  refine (eachR_wit (fun i w => ∃ (Ls : List (List (List (BitVec 8)))) (s' : Option (List (BitVec 8))) (vs ws : List Value), Ls.length = i ∧ rX n s = ((rX (n - i) s').1, Ls ++ (rX (n - i) s').2.1, (rX (n - i) s').2.2) ∧ InsW w (wW (xs.take i) Ls) vs ∧ InsW w (xs.drop i) ws ∧ vs.length = 36 * i ∧ Blk w rb 57 (vs ++ ws) ∧ IsR w B p s' ∧ Fr w0 w p (some rb) ∧ Blk w cb 50 [ptr p] ∧ Short s' 100000000) (ErrPost (rX n s).1 (rX n s).2.2 B p (some rb) w0) (some ⟨rb, 0, none⟩) n cap rb 0 cb w0 (fun _ => rfl) hn ?_ ?_).mono ?_
  · rintro i hi wq ⟨Ls, s', vs, ws, hLl, hrX, hvs, hws, hvl, hb, hR, hF, hcb, hS⟩
    obtain ⟨k, hk⟩ : ∃ k, n - i = k + 1 := ⟨n - i - 1, by omega⟩
    have hk2 : n - (i + 1) = k := by omega
    rw [hk] at hrX
    have hd := List.drop_eq_getElem_cons (show i < xs.length by omega)
    obtain ⟨x, hxx⟩ : ∃ x, x = xs[i]'(by omega) := ⟨_, rfl⟩
    rw [← hxx] at hd
    have hx32 : x.tx.length = 32 := h32 x (by rw [hxx]; exact List.getElem_mem _)
    rw [hd] at hws
    obtain ⟨v, u, r, rfl, hin, hrs⟩ := hws
    rw [show 0 + i * 36 = 36 * i by omega]
    refine (rdWit_any p s' B rb (36 * i) cb _ wq hR (Nat.le_trans hB hF.size) hS hcb hb (by rw [List.length_append, List.length_append, inV_len hx32]; omega)).mono ?_
    rintro e w' ⟨c, rfl, h0, h1⟩
    refine ⟨c, rfl, fun hc0 => ?_, fun hc0 => ?_⟩
    · obtain ⟨hr0, u', hu, hb', hR', hF'⟩ := h0 hc0
      rw [set35 _ _ _ _ _ _ _ hvl.symm hx32] at hb'
      rw [hk2]
      simp only [rX, hr0, if_true] at hrX
      refine ⟨Ls ++ [(rW s').2.1], (rW s').2.2, vs ++ inV ⟨x.tx, x.ix, x.sc, x.sq, (rW s').2.1⟩ v u', r, by simp [hLl], ?_, ?_, InsW.fr hR hb (by decide) (by decide) hF' hrs, by rw [List.length_append, inV_len (by exact hx32)]; omega, by rw [List.append_assoc]; exact hb', hR', hF.trans hF', hcb.fr hF' (hR.ne hcb (by decide)) (fun e => hne (by injection e)), rW_short hS⟩
      · rw [hrX]; simp
      · have e1 : wW (xs.take (i + 1)) (Ls ++ [(rW s').2.1]) = wW (xs.take i) Ls ++ [⟨x.tx, x.ix, x.sc, x.sq, (rW s').2.1⟩] := by
          rw [List.take_succ_eq_append_getElem (show i < xs.length by omega), ← hxx]
          unfold wW
          rw [List.zipWith_append (by rw [List.length_take]; omega)]
          simp
        rw [e1]
        refine (InsW.fr hR hb (by decide) (by decide) hF' hvs).app ⟨v, u', [], by simp, ⟨(hin.1.fr hR hb (by decide) hF'), Or.inr hu⟩, rfl⟩
    · obtain ⟨hr0, hR', hF'⟩ := h1 hc0
      have hne0 : ¬ (rW s').1 = 0 := by rw [hr0]; exact hc0
      have e1 : rX n s = ((rW s').1, Ls, (rW s').2.2) := by
        rw [hrX]; simp only [rX, hne0, if_false, List.append_nil]
      rw [e1]
      exact ⟨hr0, hR', hF.trans hF'⟩
  · refine ⟨[], s, [], vs0, rfl, by simp, ?_, by simpa using hx, rfl, by simpa using hr, h, Fr.refl _ _ _, hc, hl⟩
    simp [wW, InsW]
  · rintro e w' ⟨c, rfl, h0, h1⟩
    refine ⟨c, rfl, fun hc0 => ?_, h1⟩
    obtain ⟨Ls, s', vs, ws, hLl, hrX, hvs, hws, hvl, hb, hR, hF, _, _⟩ := h0 hc0
    rw [Nat.sub_self] at hrX
    simp only [rX, List.append_nil] at hrX
    rw [List.drop_eq_nil_of_le (by omega)] at hws
    cases hws
    rw [List.append_nil] at hb
    rw [List.take_of_length_le (by omega)] at hvs
    rw [hrX]
    exact ⟨rfl, by rw [hLl, hxn], vs, hvs, hb, hR, hF⟩
set_option maxHeartbeats 1000000 in
theorem parseWits_any (p : Option Nat) (s : Option (List (BitVec 8))) (B rb n cap : Nat) (xs : List TIn) (vs0 : List Value) (w : World) (h : IsR w B p s) (hB : B ≤ w.heap.size) (hl : Short s 100000000) (hr : Blk w rb 57 vs0) (hx : InsW w xs vs0) (hxn : xs.length = n) (hn : n ≤ 1000000) (h32 : ∀ x ∈ xs, x.tx.length = 32) :
    Calls Tryd.prog 63 #[ptr p, .slice (some ⟨rb, 0, none⟩) n cap] w (StepPost (XPost (rX n s) xs B rb p w) (ErrPost (rX n s).1 (rX n s).2.2 B p (some rb) w)) := by
  obtain ⟨q, hP⟩ : ∃ q, Value.pointer q = ptr p := ⟨_, rfl⟩
  have hW : Below w.heap.size w (w.alloc (.cells #[.pointer q] 50)) := (Below.refl _ _).alloc (Nat.le_refl _) _
  have hFW : Fr w (w.alloc (.cells #[.pointer q] 50)) p (some rb) := ⟨hW.os, hW.tape, hW.output, hW.size, fun k hk _ _ => hW.block k hk⟩
  have hcb := Blk.new w 50 #[.pointer q]
  have K := Lib.hid (witsR_any p s B rb n w.heap.size cap xs vs0 _ (h.below hW hB) (Nat.le_trans hB hW.size) hl (by rw [← hP]; exact hcb) (hr.alloc _) (InsW.fr h hr (by decide) (by decide) hFW hx) hxn hn h32)
  have HF := Lib.hid hFW
  rw [← hP]
  clear h hB hl hr hx hxn hn h32 hW hFW hcb hP
  go_enter Tryd.func63, Tryd.ntmps63
  go_wp2_with (go_at_call 69; (with_reducible refine K.out.mono ?_); rintro e w1 ⟨c, rfl, h0, h1⟩; have H0 := Lib.hid h0; have H1 := Lib.hid h1; clear h0 h1 K; dsimp only)
  go_ret
  refine ⟨c, rfl, fun hc => ?_, fun hc => ?_⟩
  · obtain ⟨a, b, vs, d, e, f, g⟩ := H0.out hc
    exact ⟨a, b, vs, d, e, f, HF.out.trans g⟩
  · obtain ⟨a, b, g⟩ := H1.out hc
    exact ⟨a, b, HF.out.trans g⟩
open Go.RowKit
set_option linter.unusedVariables false
set_option linter.unusedSimpArgs false
set_option maxRecDepth 100000
theorem below_dN {B : Nat} {w w' : World} (h : Below B w w') (k : Nat) : Below B w (w'.drewN k) := ⟨h.os, h.tape, h.output, h.size, h.block⟩
theorem Bt_inj {x y : BitVec 8} : Bt x = Bt y ↔ x = y := by
  unfold Bt
  rw [Int.ofNat_inj, BitVec.toNat_inj]
theorem take_eq_succ {α : Type} (X Y : List α) (d : α) (i : Nat) (hx : i < X.length) (hy : i < Y.length) (h : X.take i = Y.take i) : (X.take (i + 1) = Y.take (i + 1)) ↔ X.getD i d = Y.getD i d := by
  have e1 : X.getD i d = X[i] := by simp [List.getD, hx]
  have e2 : Y.getD i d = Y[i] := by simp [List.getD, hy]
  rw [List.take_succ_eq_append_getElem hx, List.take_succ_eq_append_getElem hy, h, e1, e2]
  constructor
  · intro hh
    have := List.append_cancel_left hh
    simpa using this
  · intro hh
    rw [hh]
theorem ne_at {α : Type} (X Y : List α) (d : α) (i : Nat) (h : X.getD i d ≠ Y.getD i d) : X ≠ Y := fun e => h (by rw [e])
/-- What an equality of two things tells. -/
def EqPost (b : Bool) (w : World) (e : Ending) (w' : World) : Prop := e = .returned (.bool b) ∧ Below w.heap.size w w'
set_option maxHeartbeats 4000000 in
theorem equal_any (v u : Value) (X Y : List (BitVec 8)) (w : World) (h1 : Sl w w.heap.size v X) (h2 : Sl w w.heap.size u Y) : Calls Tryd.prog 95 #[v, u] w (EqPost (decide (X = Y)) w) := by
  obtain ⟨A, c, rfl, hr, hc, hm, hn⟩ := h1
  obtain ⟨A2, c2, rfl, hr2, hc2, hm2, hn2⟩ := h2
  have HR := Lib.hid hr
  have HR2 := Lib.hid hr2
  obtain ⟨lx, hlx⟩ : ∃ n, n = X.length := ⟨_, rfl⟩
  obtain ⟨ly, hly⟩ : ∃ n, n = Y.length := ⟨_, rfl⟩
  have Hlx := Lib.hid hlx
  have Hly := Lib.hid hly
  have hlm : lx ≤ 9223372036854775807 := by omega
  have Hb0 := Lib.hid (Below.refl w.heap.size w)
  rw [← hlx, ← hly]
  clear hr hr2 hc hm hn hc2 hm2 hn2
  by_cases hl : lx = ly
  · have hly2 : ly = Y.length := hly
    clear hly
    subst hl
    clear hlx hly2
    go_enter Tryd.func95, Tryd.ntmps95
    go_wp2_with fail
    go_loopw [13] (fun iv wq => ∃ i : Nat, i ≤ lx ∧ iv = .int .i64 (i : Int) ∧ X.take i = Y.take i ∧ Below w.heap.size w wq) (fun iv _ => lx - (intOf iv).toNat)
    case atStart => exact ⟨0, Nat.zero_le _, rfl, rfl, Hb0.out⟩
    case round =>
      obtain ⟨i, hi, rfl, he, hb⟩ := hrel
      have HE := Lib.hid he
      clear he
      by_cases hlt : i < lx
      · have hlt' : (i : Int) < (lx : Int) := by omega
        obtain ⟨b, o, rfl, hbl, hcl⟩ := HR.out (by rw [← Hlx.out]; omega)
        obtain ⟨b2, o2, rfl, hbl2, hcl2⟩ := HR2.out (by rw [← Hly.out]; omega)
        have hst := take_eq_succ X Y 0 i (by rw [← Hlx.out]; exact hlt) (by rw [← Hly.out]; exact hlt) HE.out
        have hne := ne_at X Y 0 i
        have c0 : wr.cell? ⟨b, o + i, none⟩ = some (.int .u8 (Bt (X.getD i 0))) := by rw [hb.cell (p := ⟨b, o + i, none⟩) hbl]; exact hcl i (by rw [← Hlx.out]; exact hlt)
        have c1 : wr.cell? ⟨b2, o2 + i, none⟩ = some (.int .u8 (Bt (Y.getD i 0))) := by rw [hb.cell (p := ⟨b2, o2 + i, none⟩) hbl2]; exact hcl2 i (by rw [← Hly.out]; exact hlt)
        generalize X.getD i 0 = x at c0 hst hne
        generalize Y.getD i 0 = y at c1 hst hne
        have Hb := Lib.hid hb
        by_cases hxy : x = y
        · have HT := Lib.hid (hst.2 hxy)
          have e1 : (Bt x != Bt y) = false := by rw [hxy]; simp
          clear hst hne hxy hcl hcl2 hbl hbl2 hb
          go_wp2_with fail
          go_quiet (fail)
          go_wp2_with fail
          go_roundw
          case rel => exact ⟨i + 1, by omega, by go_num, HT.out, below_dN Hb.out _⟩
          case measure => simp [intOf]; omega
        · have HT : Hid (decide (X = Y) = false) := show decide (X = Y) = false by simpa using hne hxy
          have e1 : (Bt x != Bt y) = true := by simpa [Bt_inj] using hxy
          clear hst hne hxy hcl hcl2 hbl hbl2 hb
          go_wp2_with fail
          go_quiet (fail)
          go_wp2_with fail
          go_ret
          exact ⟨by rw [HT.out]; rfl, below_dN Hb.out _⟩
      · obtain rfl : i = lx := by omega
        have hlt' : ¬ (i : Int) < (i : Int) := by omega
        have HT : Hid (decide (X = Y) = true) := show decide (X = Y) = true by
          have := HE.out
          rw [List.take_of_length_le (by rw [← Hlx.out]; exact Nat.le_refl _), List.take_of_length_le (by rw [← Hly.out]; exact Nat.le_refl _)] at this
          simpa using this
        go_wp2_with fail
        go_ret
        exact ⟨by rw [HT.out]; rfl, hb⟩
  · have e1 : ((lx : Int) != (ly : Int)) = true := by simp; omega
    have HT : Hid (decide (X = Y) = false) := show decide (X = Y) = false by
      have : X ≠ Y := fun e => hl (by rw [hlx, hly, e])
      simpa using this
    clear hl hlx hly
    go_enter Tryd.func95, Tryd.ntmps95
    go_wp2_with fail
    go_ret
    exact ⟨by rw [HT.out]; rfl, Hb0.out⟩
theorem sameText_any (v u : Value) (X Y : List (BitVec 8)) (w : World) (h1 : Sl w w.heap.size v X) (h2 : Sl w w.heap.size u Y) : Calls Tryd.prog 64 #[v, u] w (EqPost (decide (X = Y)) w) := by
  have K := Lib.hid (equal_any v u X Y w h1 h2)
  clear h1 h2
  go_enter Tryd.func64, Tryd.ntmps64
  go_wp2_with (go_at_call 95; (with_reducible refine K.out.mono ?_); rintro e w2 ⟨rfl, hb⟩; dsimp only)
  go_ret
  exact ⟨rfl, hb⟩

open Go.RowKit
set_option linter.unusedVariables false
set_option linter.unusedSimpArgs false
set_option maxRecDepth 100000
set_option maxHeartbeats 4000000 in
theorem eqf_texts (v u : Value) (xs ys : List (List (BitVec 8))) (w : World) (h1 : Ws w w.heap.size v xs) (h2 : Ws w w.heap.size u ys) :
    Calls Tryd.prog 65 #[v, u, .func (.func 64) #[] #[]] w (EqPost (decide (xs = ys)) w) := by
  obtain ⟨A, c, b, o, rfl, hA, hr⟩ := Row.open h1
  obtain ⟨A2, c2, b2, o2, rfl, hA2, hr2⟩ := Row.open h2
  obtain ⟨_, _, e1, hm1, hm2, _⟩ := h1
  cases e1
  have HR := Lib.hid hr
  have HR2 := Lib.hid hr2
  have HA := Lib.hid hA
  have HA2 := Lib.hid hA2
  obtain ⟨lx, hlx⟩ : ∃ n, n = xs.length := ⟨_, rfl⟩
  obtain ⟨ly, hly⟩ : ∃ n, n = ys.length := ⟨_, rfl⟩
  have Hlx := Lib.hid hlx
  have Hly := Lib.hid hly
  have hlm : lx ≤ 9223372036854775807 := by omega
  have Hb0 := Lib.hid (Below.refl w.heap.size w)
  rw [← hlx, ← hly]
  clear hr hr2 hA hA2 hm1 hm2 h2
  by_cases hl : lx = ly
  · have hly2 : ly = ys.length := hly
    clear hly
    subst hl
    clear hlx hly2
    go_enter Tryd.func65, Tryd.ntmps65
    go_wp2_with fail
    go_loopw [17] (fun iv wq => ∃ i : Nat, i ≤ lx ∧ iv = .int .i64 (i : Int) ∧ xs.take i = ys.take i ∧ Below w.heap.size w wq) (fun iv _ => lx - (intOf iv).toNat)
    case atStart => exact ⟨0, Nat.zero_le _, rfl, rfl, Hb0.out⟩
    case round =>
      obtain ⟨i, hi, rfl, he, hb⟩ := hrel
      have HE := Lib.hid he
      clear he
      by_cases hlt : i < lx
      · have hlt' : (i : Int) < (lx : Int) := by omega
        obtain rfl := HA.out (by rw [← Hlx.out]; omega)
        obtain rfl := HA2.out (by rw [← Hly.out]; omega)
        obtain ⟨hbl, z1, cu, hs⟩ := HR.out i (by rw [← Hlx.out]; exact hlt)
        obtain ⟨hbl2, z2, cu2, hs2⟩ := HR2.out i (by rw [← Hly.out]; exact hlt)
        have hst := take_eq_succ xs ys [] i (by rw [← Hlx.out]; exact hlt) (by rw [← Hly.out]; exact hlt) HE.out
        have hne := ne_at xs ys [] i
        rw [Nat.mul_one] at cu cu2
        have c0 : wr.cell? ⟨b, o + i, none⟩ = some z1 := by rw [hb.cell (p := ⟨b, o + i, none⟩) hbl]; exact cu
        have c1 : wr.cell? ⟨b2, o2 + i, none⟩ = some z2 := by rw [hb.cell (p := ⟨b2, o2 + i, none⟩) hbl2]; exact cu2
        have hs1 := (hs.keep hb (Nat.le_refl _)).up hb.size
        have hs21 := (hs2.keep hb (Nat.le_refl _)).up hb.size
        generalize xs.getD i [] = x at hs hs1 hst hne
        generalize ys.getD i [] = y at hs2 hs21 hst hne
        have Hb := Lib.hid hb
        have KK : Hid (∀ wq, Below wr.heap.size wr wq → Calls Tryd.prog 64 #[z1, z2] wq (EqPost (decide (x = y)) wq)) := fun wq hq => sameText_any z1 z2 x y wq ((hs1.keep hq (Nat.le_refl _)).up hq.size) ((hs21.keep hq (Nat.le_refl _)).up hq.size)
        obtain ⟨Ax, cx, rfl, _⟩ := hs1
        obtain ⟨Ay, cy, rfl, _⟩ := hs21
        have K := KK
        by_cases hxy : x = y
        · have HT := Lib.hid (hst.2 hxy)
          rw [show decide (x = y) = true by simpa using hxy] at K
          clear hst hne hxy hbl hbl2 hb cu cu2 hs hs2
          go_wp2_with (go_at_call 64; (with_reducible refine (K.out _ (Below.refl _ _)).mono ?_); rintro e w2 ⟨rfl, hb2⟩; dsimp only)
          go_roundw
          case rel => exact ⟨i + 1, by omega, by go_num, HT.out, Hb.out.trans (hb2.mono Hb.out.size)⟩
          case measure => simp [intOf]; omega
        · have HT : Hid (decide (xs = ys) = false) := show decide (xs = ys) = false by simpa using hne hxy
          rw [show decide (x = y) = false by simpa using hxy] at K
          clear hst hne hxy hbl hbl2 hb cu cu2 hs hs2
          go_wp2_with (go_at_call 64; (with_reducible refine (K.out _ (Below.refl _ _)).mono ?_); rintro e w2 ⟨rfl, hb2⟩; dsimp only)
          go_ret
          exact ⟨by rw [HT.out]; rfl, Hb.out.trans (hb2.mono Hb.out.size)⟩
      · obtain rfl : i = lx := by omega
        have hlt' : ¬ (i : Int) < (i : Int) := by omega
        have HT : Hid (decide (xs = ys) = true) := show decide (xs = ys) = true by
          have := HE.out
          rw [List.take_of_length_le (by rw [← Hlx.out]; exact Nat.le_refl _), List.take_of_length_le (by rw [← Hly.out]; exact Nat.le_refl _)] at this
          simpa using this
        go_wp2_with fail
        go_ret
        exact ⟨by rw [HT.out]; rfl, hb⟩
  · have e1 : ((lx : Int) != (ly : Int)) = true := by simp; omega
    have HT : Hid (decide (xs = ys) = false) := show decide (xs = ys) = false by
      have : xs ≠ ys := fun e => hl (by rw [hlx, hly, e])
      simpa using this
    clear hl hlx hly
    go_enter Tryd.func65, Tryd.ntmps65
    go_wp2_with fail
    go_ret
    exact ⟨by rw [HT.out]; rfl, Hb0.out⟩

open Go.RowKit
set_option linter.unusedVariables false
set_option linter.unusedSimpArgs false
set_option maxRecDepth 100000
def prevV (X : List (BitVec 8)) (a : Nat) : List Value := vbs X ++ [.int .u32 (a : Int)]
theorem part_tx (X : List (BitVec 8)) (a : Nat) (hX : X.length = 32) (w : World) : (part 38 (prevV X a).toArray 0).run Tryd.prog w = .ok (.agg (vbs X).toArray) w := by
  have h1 : (isAgg 38).run Tryd.prog w = .ok true w := by kernel_rfl
  have h2 : (sizeOf 38).run Tryd.prog w = .ok 32 w := by kernel_rfl
  have hl : (vbs X).length = 32 := by rw [vbs_len, hX]
  simp [part, h1, h2, prevV]
  rw [List.take_append_of_le_length (by omega), List.take_of_length_le (by omega)]
theorem part_ix (X : List (BitVec 8)) (a : Nat) (hX : X.length = 32) (w : World) : (part 22 (prevV X a).toArray 32).run Tryd.prog w = .ok (.int .u32 (a : Int)) w := by
  have h1 : (isAgg 22).run Tryd.prog w = .ok false w := by kernel_rfl
  have hl : (vbs X).length = 32 := by rw [vbs_len, hX]
  simp [part, h1, prevV, hl]
theorem eql57 (X Y : List (BitVec 8)) (a b : Nat) (hX : X.length = 32) (hY : Y.length = 32) (w : World) :
    (binOp .eql 54 (.agg (prevV X a).toArray) (.agg (prevV Y b).toArray)).run Tryd.prog w = .ok (.bool (decide (X = Y) && decide (a = b))) w := by
  have hS : Tryd.prog.underlying 54 = some (.struct (Tryd.prog.fieldsOf 54)) := by kernel_rfl
  have hp : Tryd.prog.stoodInHeld 54 = false := by kernel_rfl
  have px := part_tx X a hX
  have py := part_tx Y b hY
  have qx := part_ix X a hX
  have qy := part_ix Y b hY
  have eX : vbs X = (X.map UInt8.ofBitVec).map Extern.Stop.cell := by simp [vbs, Extern.Stop.cell, Bt]
  have eY : vbs Y = (Y.map UInt8.ofBitVec).map Extern.Stop.cell := by simp [vbs, Extern.Stop.cell, Bt]
  have hb : ∀ w, (Op.equalIn 9999 38 (.agg (vbs X).toArray) (.agg (vbs Y).toArray)).run Tryd.prog w = .ok (decide (X = Y)) w := fun w => by
    have := run_equalIn_bytes (P := Tryd.prog) w 9997 38 5 32 Tryd.underlying38 Tryd.underlying5 (fun _ => by kernel_rfl) (X.map UInt8.ofBitVec) (Y.map UInt8.ofBitVec) (by simpa using hX) (by simpa using hY)
    rw [← eX, ← eY] at this
    rw [this]
    congr 1
    rw [Bool.eq_iff_iff]
    simp only [beq_iff_eq, decide_eq_true_eq]
    constructor
    · intro h
      have := congrArg (List.map UInt8.toBitVec) h
      simpa [List.map_map, Function.comp_def] using this
    · intro h
      rw [h]
  rw [run_eql_struct, show (10000 : Nat) = 9999 + 1 from rfl, run_equalIn_agg w 9999 54 _ _ hS hp]
  simp only [Program.fieldsOf, Tryd.underlying54]
  generalize (prevV X a).toArray = P1 at px qx ⊢
  generalize (prevV Y b).toArray = P2 at py qy ⊢
  have hi : ∀ w, (Op.equalIn 9999 22 (.int .u32 (a : Int)) (.int .u32 (b : Int))).run Tryd.prog w = .ok ((a : Int) == (b : Int)) w := fun w => run_equalIn_int w 9998 22 .u32 .u32 _ _ Tryd.underlying22
  simp only [Op.eqFields, Sem.run_bind, px, py, qx, qy, hb, hi, Result.andThen_ok, Sem.run_ite, Sem.run_pure]
  by_cases h1 : X = Y <;> by_cases h2 : a = b <;> simp [h1, h2] <;> omega
theorem neq57 (X Y : List (BitVec 8)) (a b : Nat) (hX : X.length = 32) (hY : Y.length = 32) (w : World) :
    (binOp .neq 54 (.agg (prevV X a).toArray) (.agg (prevV Y b).toArray)).run Tryd.prog w = .ok (.bool (!(decide (X = Y) && decide (a = b)))) w := by
  have h := eql57 X Y a b hX hY w
  rw [run_eql_struct] at h
  rw [run_neq_struct]
  generalize (Op.equalIn 10000 54 (.agg (prevV X a).toArray) (.agg (prevV Y b).toArray)).run Tryd.prog w = r at h ⊢
  cases r with
  | ok v w' =>
    simp only [Result.andThen_ok] at h ⊢
    cases h
    rfl
  | halt e w' => simp [Result.andThen] at h
theorem inV_prev {x : TIn} {s u : Value} : inV x s u = prevV x.tx x.ix ++ [s, .int .u32 (x.sq : Int), u] := by simp [inV, prevV]
theorem prevV_len {X : List (BitVec 8)} {a : Nat} (h : X.length = 32) : (prevV X a).length = 33 := by simp [prevV, vbs_len, h]
theorem info57 {X : List (BitVec 8)} {a : Nat} (h : X.length = 32) : (Tryd.prog.info? 54).map (·.size) = some (prevV X a).length := by rw [prevV_len h]; kernel_rfl
theorem Blk.prev {w : World} {b T : Nat} {x : TIn} {s u : Value} (h : Blk w b T (inV x s u)) : w.rangeAt b 0 (prevV x.tx x.ix) := fun j v hv => by
  rw [Nat.zero_add]
  refine h.cell ?_
  rw [inV_prev, List.getElem?_append_left (List.getElem?_eq_some_iff.1 hv).1]
  exact hv
open Go.RowKit
set_option linter.unusedVariables false
set_option linter.unusedSimpArgs false
set_option maxRecDepth 100000
theorem tol_data (s : ByteArray) : s.toList = s.data.toList := by
  have key : ∀ (n i : Nat) (r : List UInt8), s.size - i = n → ByteArray.toList.loop s i r = r.reverse ++ s.data.toList.drop i := by
    intro n
    induction n with
    | zero =>
      intro i r h
      unfold ByteArray.toList.loop
      rw [if_neg (by omega), List.drop_eq_nil_of_le (by rw [Array.length_toList]; show s.size ≤ i; omega)]
      simp
    | succ n ih =>
      intro i r h
      unfold ByteArray.toList.loop
      rw [if_pos (by omega), ih (i + 1) _ (by omega)]
      have hi : i < s.data.toList.length := by rw [Array.length_toList]; show i < s.size; omega
      rw [List.drop_eq_getElem_cons hi]
      have : s.get! i = s.data.toList[i] := by
        show s.data[i]! = _
        have h2 : i < s.data.size := by rw [Array.length_toList] at hi; exact hi
        rw [getElem!_pos s.data i h2]; simp
      simp [this]
  have := key (s.size - 0) 0 [] rfl
  simpa [ByteArray.toList] using this
theorem strB_list (L : List (BitVec 8)) : (strB L).toList = L.map UInt8.ofBitVec := by
  rw [tol_data]
  have key : ∀ (L : List (BitVec 8)) (r : ByteArray), ((L.map Bt).foldl (fun r n => r.push (UInt8.ofNat n.toNat)) r).data.toList = r.data.toList ++ L.map UInt8.ofBitVec := by
    intro L
    induction L with
    | nil => intro r; simp
    | cons x l ih =>
      intro r
      rw [List.map_cons, List.foldl_cons, ih]
      have e : UInt8.ofNat (Bt x).toNat = UInt8.ofBitVec x := by
        unfold Bt
        rw [Int.toNat_natCast]
        apply UInt8.toBitVec_inj.1
        simp
      rw [e]
      simp [ByteArray.push]
  have := key L ByteArray.empty
  simpa [strB] using this
theorem strB_eq {X Y : List (BitVec 8)} : (strB X).toList = (strB Y).toList ↔ X = Y := by
  rw [strB_list, strB_list]
  constructor
  · intro h
    have := congrArg (List.map UInt8.toBitVec) h
    have e : UInt8.toBitVec ∘ UInt8.ofBitVec = (id : BitVec 8 → BitVec 8) := funext fun x => rfl
    simpa [e] using this
  · rintro rfl; rfl
theorem strB_beq (X Y : List (BitVec 8)) : ((strB X).toList == (strB Y).toList) = decide (X = Y) := by
  by_cases h : X = Y
  · subst h; simp
  · have : ¬ (strB X).toList = (strB Y).toList := fun e => h (strB_eq.1 e)
    simp [h, this]
/-- A bool is told, and nothing that was has changed. -/
def SomePost (w : World) (e : Ending) (w' : World) : Prop := ∃ b, e = .returned (.bool b) ∧ Below w.heap.size w w'
set_option maxHeartbeats 8000000 in
theorem large_at (xs : List TIn) (ys : List TOut) (A1 A2 : Option Addr) (c1 c2 : Nat) (n1 n2 : Nat) (V Lk : Int) (w : World) (hn1 : n1 = xs.length) (hn2 : n2 = ys.length) (h1 : Is w w.heap.size (.slice A1 n1 c1) xs) (h2 : Os w w.heap.size (.slice A2 n2 c2) ys) :
    Calls Tryd.prog 6 #[.agg #[.int .u32 V, .slice A1 n1 c1, .slice A2 n2 c2, .int .u32 Lk]] w (SomePost w) := by
  obtain ⟨A, c, b, o, e1, hA, hr⟩ := Row.open h1
  obtain ⟨A', c', b2, o2, e2, hA2, hr2⟩ := Row.open h2
  have hc1 : n1 ≤ 9223372036854775807 := by obtain ⟨_, _, e, h3, h4, _⟩ := h1; cases e; omega
  have hc2 : n2 ≤ 9223372036854775807 := by obtain ⟨_, _, e, h3, h4, _⟩ := h2; cases e; omega
  subst hn1 hn2
  cases e1
  cases e2
  obtain ⟨w1, hw1⟩ : ∃ w1, w1 = w.alloc (.cells #[.int .u32 V, .slice A1 xs.length c1, .slice A2 ys.length c2, .int .u32 Lk] 26) := ⟨_, rfl⟩
  have hb1 : Below w.heap.size w w1 := by rw [hw1]; exact (Below.refl _ _).alloc (Nat.le_refl _) _
  have HX : Hid (∀ i, i < xs.length → A1 = some ⟨b, o, none⟩ ∧ ∃ As ls cs Aw lw cw, w1.cell? ⟨b, o + i * 36 + 33, none⟩ = some (.slice As ls cs) ∧ w1.cell? ⟨b, o + i * 36 + 35, none⟩ = some (.slice Aw lw cw) ∧ ls ≤ 9223372036854775807 ∧ lw ≤ 9223372036854775807 ∧
      ∀ k, k < lw → ∃ wb wo At lt ct, Aw = some ⟨wb, wo, none⟩ ∧ w1.cell? ⟨wb, wo + k, none⟩ = some (.slice At lt ct) ∧ lt ≤ 9223372036854775807) := fun i hi => by
    obtain ⟨hlt, s, u, hc, ⟨hs, hu, h32, _, _⟩⟩ := hr i hi
    obtain ⟨_, e33, _, e35⟩ := inV_at (x := xs.getD i In0) (s := s) (v := u) h32
    obtain ⟨As, cs, rfl, _, _, _, _⟩ := hs
    obtain ⟨Aw, cw, wb, wo, rfl, hAw, hww⟩ := Row.open hu
    have hm : (xs.getD i In0).wt.length ≤ 9223372036854775807 := by obtain ⟨_, _, e, h3, h4, _⟩ := hu; cases e; omega
    refine ⟨hA (by omega), As, _, cs, Aw, _, cw, by rw [hb1.cell (p := ⟨b, o + i * 36 + 33, none⟩) hlt]; exact hc 33 _ e33, by rw [hb1.cell (p := ⟨b, o + i * 36 + 35, none⟩) hlt]; exact hc 35 _ e35, by omega, hm, fun k hk => ?_⟩
    obtain ⟨hwl, t, hct, At, ct, rfl, _, _, _, _⟩ := hww k hk
    rw [Nat.mul_one] at hct
    exact ⟨wb, wo, At, _, ct, hAw (by omega), by rw [hb1.cell (p := ⟨wb, wo + k, none⟩) hwl]; exact hct, by omega⟩
  have HY : Hid (∀ i, i < ys.length → A2 = some ⟨b2, o2, none⟩ ∧ ∃ As ls cs, w1.cell? ⟨b2, o2 + i * 2 + 1, none⟩ = some (.slice As ls cs) ∧ ls ≤ 9223372036854775807) := fun i hi => by
    obtain ⟨hlt, s, hc, hs, _, _⟩ := hr2 i hi
    obtain ⟨As, cs, rfl, _, _, _, _⟩ := hs
    exact ⟨hA2 (by omega), As, _, cs, by rw [hb1.cell (p := ⟨b2, o2 + i * 2 + 1, none⟩) hlt]; exact hc 1 _ rfl, by omega⟩
  obtain ⟨n1, hn1⟩ : ∃ n, n = xs.length := ⟨_, rfl⟩
  obtain ⟨n2, hn2⟩ : ∃ n, n = ys.length := ⟨_, rfl⟩
  rw [← hn1] at HX hc1 hw1 ⊢
  rw [← hn2] at HY hc2 hw1 ⊢
  have hT1 : w1.cell? ⟨w.heap.size, 1, none⟩ = some (.slice A1 n1 c1) := by rw [hw1]; exact cell_new rfl rfl
  have hT2 : w1.cell? ⟨w.heap.size, 2, none⟩ = some (.slice A2 n2 c2) := by rw [hw1]; exact cell_new rfl rfl
  have Hb1 := Lib.hid hb1
  clear hr hr2 hA hA2 h1 h2 hn1 hn2 hb1
  go_enter Tryd.func6, Tryd.ntmps6
  go_upto_region 1 with fail
  rw [← hw1]
  generalize w.heap.size = tb at hT1 hT2 ⊢
  clear hw1
  go_wp2_with fail
  go_loop [3] (fun iv => ∃ i : Nat, i ≤ n1 ∧ iv = .int .i64 (i : Int)) (fun iv => n1 - (intOf iv).toNat)
  case atStart => exact ⟨0, Nat.zero_le _, rfl⟩
  case round =>
    obtain ⟨i, hi, rfl⟩ := hrel
    by_cases hi1 : i < n1
    · have hi2 : (i : Int) < (n1 : Int) := by omega
      by_cases hi5 : i < 50
      · have hi6 : (i : Int) < 50 := by omega
        obtain ⟨rfl, As, ls, cs, Aw, lw, cw, cc, cd, hls, hlw, hk⟩ := HX.out i hi1
        have HK := Lib.hid hk
        clear hk
        by_cases q : 400 < ls
        · have q1 : (400 : Int) < (ls : Int) := by omega
          go_wp2_with fail
          go_ret
          exact ⟨_, rfl, Hb1.out⟩
        · have q1 : ¬ (400 : Int) < (ls : Int) := by omega
          by_cases q2 : 40 < lw
          · have q3 : (40 : Int) < (lw : Int) := by omega
            go_wp2_with fail
            go_ret
            exact ⟨_, rfl, Hb1.out⟩
          · have q3 : ¬ (40 : Int) < (lw : Int) := by omega
            go_wp2_with fail
            go_loop [4] (fun kv => ∃ k : Nat, k ≤ lw ∧ kv = .int .i64 (k : Int)) (fun kv => lw - (intOf kv).toNat)
            case atStart => exact ⟨0, Nat.zero_le _, rfl⟩
            case round =>
              obtain ⟨k, hk, rfl⟩ := hrel
              by_cases hk1 : k < lw
              · have hk2 : (k : Int) < (lw : Int) := by omega
                obtain ⟨wb, wo, At, lt, ct, rfl, ce, hlt⟩ := HK.out k hk1
                by_cases q4 : 400 < lt
                · have q5 : (400 : Int) < (lt : Int) := by omega
                  go_wp2_with fail
                  go_ret
                  exact ⟨_, rfl, Hb1.out⟩
                · have q5 : ¬ (400 : Int) < (lt : Int) := by omega
                  go_wp2_with fail
                  go_round
                  case rel => exact ⟨k + 1, by omega, by go_num⟩
                  case measure => simp [intOf]; omega
              · have hk2 : ¬ (k : Int) < (lw : Int) := by omega
                go_wp2_with fail
                go_round
                case rel => exact ⟨i + 1, by omega, by go_num⟩
                case measure => simp [intOf]; omega
      · have hi6 : ¬ (i : Int) < 50 := by omega
        go_wp2_with fail
        go_loop [5] (fun iv => ∃ i : Nat, i ≤ n2 ∧ iv = .int .i64 (i : Int)) (fun iv => n2 - (intOf iv).toNat)
        case atStart => exact ⟨0, Nat.zero_le _, rfl⟩
        case round =>
          obtain ⟨j, hj, rfl⟩ := hrel
          by_cases hj1 : j < n2
          · have hj2 : (j : Int) < (n2 : Int) := by omega
            by_cases hj5 : j < 50
            · have hj6 : (j : Int) < 50 := by omega
              obtain ⟨rfl, As, ls, cs, cc, hls⟩ := HY.out j hj1
              by_cases q : 400 < ls
              · have q1 : (400 : Int) < (ls : Int) := by omega
                go_wp2_with fail
                go_ret
                exact ⟨_, rfl, Hb1.out⟩
              · have q1 : ¬ (400 : Int) < (ls : Int) := by omega
                go_wp2_with fail
                go_round
                case rel => exact ⟨j + 1, by omega, by go_num⟩
                case measure => simp [intOf]; omega
            · have hj6 : ¬ (j : Int) < 50 := by omega
              by_cases q1 : 40 < n1
              · have q2 : (40 : Int) < (n1 : Int) := by omega
                go_wp2_with fail
                go_ret
                exact ⟨_, rfl, Hb1.out⟩
              · exfalso; omega
          · have hj2 : ¬ (j : Int) < (n2 : Int) := by omega
            by_cases q1 : 40 < n1
            · have q2 : (40 : Int) < (n1 : Int) := by omega
              go_wp2_with fail
              go_ret
              exact ⟨_, rfl, Hb1.out⟩
            · exfalso; omega
    · have hi2 : ¬ (i : Int) < (n1 : Int) := by omega
      go_wp2_with fail
      go_loop [5] (fun iv => ∃ i : Nat, i ≤ n2 ∧ iv = .int .i64 (i : Int)) (fun iv => n2 - (intOf iv).toNat)
      case atStart => exact ⟨0, Nat.zero_le _, rfl⟩
      case round =>
        obtain ⟨j, hj, rfl⟩ := hrel
        by_cases hj1 : j < n2
        · have hj2 : (j : Int) < (n2 : Int) := by omega
          by_cases hj5 : j < 50
          · have hj6 : (j : Int) < 50 := by omega
            obtain ⟨rfl, As, ls, cs, cc, hls⟩ := HY.out j hj1
            by_cases q : 400 < ls
            · have q1 : (400 : Int) < (ls : Int) := by omega
              go_wp2_with fail
              go_ret
              exact ⟨_, rfl, Hb1.out⟩
            · have q1 : ¬ (400 : Int) < (ls : Int) := by omega
              go_wp2_with fail
              go_round
              case rel => exact ⟨j + 1, by omega, by go_num⟩
              case measure => simp [intOf]; omega
          · have hj6 : ¬ (j : Int) < 50 := by omega
            by_cases q1 : 40 < n1
            · have q2 : (40 : Int) < (n1 : Int) := by omega
              go_wp2_with fail
              go_ret
              exact ⟨_, rfl, Hb1.out⟩
            · have q2 : ¬ (40 : Int) < (n1 : Int) := by omega
              go_wp2_with fail
              go_ret
              exact ⟨_, rfl, Hb1.out⟩
        · have hj2 : ¬ (j : Int) < (n2 : Int) := by omega
          by_cases q1 : 40 < n1
          · have q2 : (40 : Int) < (n1 : Int) := by omega
            go_wp2_with fail
            go_ret
            exact ⟨_, rfl, Hb1.out⟩
          · have q2 : ¬ (40 : Int) < (n1 : Int) := by omega
            go_wp2_with fail
            go_ret
            exact ⟨_, rfl, Hb1.out⟩
open Go.RowKit
set_option linter.unusedVariables false
set_option linter.unusedSimpArgs false
set_option maxRecDepth 100000
def OkIn (x : TIn) : Prop := x.tx.length = 32 ∧ x.ix < 4294967296 ∧ x.sq < 4294967296
def OkOut (y : TOut) : Prop := -9223372036854775808 ≤ y.vl ∧ y.vl < 9223372036854775808
theorem i64w_range (n : Nat) : -9223372036854775808 ≤ i64w n ∧ i64w n < 9223372036854775808 := by
  unfold i64w
  rw [IntKind.wrap_i64]
  omega
theorem rN_ok : ∀ (n : Nat) (s : Option (List (BitVec 8))), ∀ x ∈ (rN n s).2.1, OkIn x ∧ x.wt = []
  | 0, s, x, hx => by simp [rN] at hx
  | n + 1, s, x, hx => by
    by_cases h0 : rInE s = 0
    · simp only [rN, h0, if_true] at hx
      rcases List.mem_cons.1 hx with rfl | hx
      · exact ⟨⟨hashL_len s, numV_4 _, numV_4 _⟩, rfl⟩
      · exact rN_ok n _ x hx
    · simp only [rN, h0, if_false] at hx
      cases hx
theorem rO_ok : ∀ (n : Nat) (s : Option (List (BitVec 8))), ∀ y ∈ (rO n s).2.1, OkOut y
  | 0, s, x, hx => by simp [rO] at hx
  | n + 1, s, x, hx => by
    by_cases h0 : tE (numS s 8) 128 = 0
    · simp only [rO, h0, if_true] at hx
      rcases List.mem_cons.1 hx with rfl | hx
      · exact i64w_range _
      · exact rO_ok n _ x hx
    · simp only [rO, h0, if_false] at hx
      cases hx
theorem rIns_ok (s : Option (List (BitVec 8))) : ∀ x ∈ (rIns s).2.1, OkIn x ∧ x.wt = [] := by
  unfold rIns
  split
  · exact rN_ok _ _
  · intro x hx; cases hx
theorem rOuts_ok (s : Option (List (BitVec 8))) : ∀ y ∈ (rOuts s).2.1, OkOut y := by
  unfold rOuts
  split
  · exact rO_ok _ _
  · intro x hx; cases hx
theorem wW_ok : ∀ (xs : List TIn) (Ls : List (List (List (BitVec 8)))), (∀ x ∈ xs, OkIn x) → ∀ x ∈ wW xs Ls, OkIn x
  | [], _, _, x, hx => by simp [wW] at hx
  | _ :: _, [], _, x, hx => by simp [wW] at hx
  | y :: ys, L :: Ls, h, x, hx => by
    have hx : x ∈ (⟨y.tx, y.ix, y.sc, y.sq, L⟩ : TIn) :: wW ys Ls := hx
    rcases List.mem_cons.1 hx with rfl | hx
    · exact h y (by simp)
    · exact wW_ok ys Ls (fun z hz => h z (by simp [hz])) x hx
theorem WitN.ws {w : World} {u : Value} {Ls : List (List (BitVec 8))} (h : WitN w u Ls) (hn : Ls.length ≤ 1000000) : Ws w w.heap.size u Ls := by
  rcases h with ⟨rfl, rfl⟩ | ⟨ib, vs, rfl, hb, hs⟩
  · exact ⟨none, 0, rfl, Nat.le_refl _, by omega, fun h => by simp at h⟩
  · refine ⟨_, _, rfl, Nat.le_refl _, by omega, fun hp => ⟨ib, 0, rfl, hb.lt, fun j hj => ?_⟩⟩
    have hjv : j < vs.length := by rw [hs.1]; exact hj
    refine ⟨vs[j], by rw [Nat.zero_add, Nat.mul_one]; exact hb.cell (List.getElem?_eq_getElem hjv), (hs.2 j _ (List.getElem?_eq_getElem hjv)).sl⟩
theorem range_mid {w : World} {b : Nat} {T : TypeId} {pre us post : List Value} (h : Blk w b T (pre ++ (us ++ post))) : w.rangeAt b pre.length us := fun j v hv => by
  have hj := (List.getElem?_eq_some_iff.1 hv).1
  refine h.cell (j := pre.length + j) ?_
  rw [List.getElem?_append_right (by omega), Nat.add_sub_cancel_left, List.getElem?_append_left hj]
  exact hv
theorem ins_at {w : World} {ib : Nat} : ∀ (xs : List TIn) (pre vs : List Value), (∀ x ∈ xs, OkIn x ∧ x.wt.length ≤ 1000000) → InsW w xs vs → Blk w ib 57 (pre ++ vs) → ∀ j, j < xs.length → ∃ s u, w.rangeAt ib (pre.length + j * 36) (inV (xs.getD j In0) s u) ∧ InOk w w.heap.size (xs.getD j In0) s u
  | [], _, _, _, _, _, j, hj => by simp at hj
  | x :: xs, pre, _, hx, ⟨v, u, r, e, hi, hr⟩, hb, j, hj => by
    subst e
    cases j with
    | zero =>
      refine ⟨v, u, ?_, hi.1.sl, WitN.ws hi.2 (hx x (by simp)).2, (hx x (by simp)).1⟩
      simpa using range_mid hb
    | succ j =>
      have := ins_at xs (pre ++ inV x v u) r (fun y hy => hx y (by simp [hy])) hr (by rw [List.append_assoc]; exact hb) j (by simp at hj; omega)
      rw [List.length_append, inV_len (hx x (by simp)).1.1] at this
      rw [show pre.length + (j + 1) * 36 = pre.length + 36 + j * 36 by omega]
      exact this
theorem outs_at {w : World} {ib : Nat} : ∀ (ys : List TOut) (ss pre : List Value), (∀ y ∈ ys, OkOut y) → SlNs w ss (ys.map TOut.sc) → Blk w ib 43 (pre ++ (List.zipWith outV ys ss).flatten) → ∀ j, j < ys.length → ∃ s, w.rangeAt ib (pre.length + j * 2) (outV (ys.getD j Out0) s) ∧ OutOk w w.heap.size (ys.getD j Out0) s
  | [], _, _, _, _, _, j, hj => by simp at hj
  | y :: ys, [], _, _, h, _, j, hj => by have := h.1; simp at this
  | y :: ys, s :: ss, pre, hy, hs, hb, j, hj => by
    obtain ⟨h1, h2⟩ := SlNs.cons hs
    have hb : Blk w ib 43 (pre ++ (outV y s ++ (List.zipWith outV ys ss).flatten)) := hb
    cases j with
    | zero =>
      refine ⟨s, ?_, h1.sl, hy y (by simp)⟩
      simpa using range_mid hb
    | succ j =>
      have := outs_at ys ss (pre ++ outV y s) (fun z hz => hy z (by simp [hz])) h2 (by rw [List.append_assoc]; exact hb) j (by simp at hj; omega)
      rw [List.length_append, show (outV y s).length = 2 from rfl] at this
      rw [show pre.length + (j + 1) * 2 = pre.length + 2 + j * 2 by omega]
      exact this
theorem InsW.is {w : World} {ib n : Nat} {xs : List TIn} {vs : List Value} (h : InsW w xs vs) (hb : Blk w ib 57 vs) (hx : ∀ x ∈ xs, OkIn x ∧ x.wt.length ≤ 1000000) (hn : xs.length = n) (hl : n ≤ 1000000) : Is w w.heap.size (.slice (some ⟨ib, 0, none⟩) n n) xs := by
  subst hn
  refine ⟨_, _, rfl, Nat.le_refl _, by omega, fun hp => ⟨ib, 0, rfl, hb.lt, fun j hj => ?_⟩⟩
  exact ins_at xs [] vs hx h hb j hj
theorem OutsN.os {w : World} {ob n : Nat} {ys : List TOut} {vs : List Value} (h : OutsN w vs ys) (hb : Blk w ob 43 vs) (hy : ∀ y ∈ ys, OkOut y) (hn : ys.length = n) (hl : n ≤ 1000000) : Go.Proofs.YtnkkhmgplpkjbaaDoor.Os w w.heap.size (.slice (some ⟨ob, 0, none⟩) n n) ys := by
  subst hn
  obtain ⟨ss, hs, rfl⟩ := h
  refine ⟨_, _, rfl, Nat.le_refl _, by omega, fun hp => ⟨ob, 0, rfl, hb.lt, fun j hj => ?_⟩⟩
  exact outs_at ys ss [] hy hs hb j hj
/-- Does the mark stand there? -/
def rM (s : Option (List (BitVec 8))) : Bool := decide (takeL s 2 = [0, 1])
/-- The transaction that s begins with: the error, the transaction, what is left; a missing end is not told yet. -/
def rT4 (v : Nat) (m : Bool) (ins : List TIn) (outs : List TOut) (s : Option (List (BitVec 8))) : Int × TTx × Option (List (BitVec 8)) :=
  if m = true ∧ witd ⟨v, ins, outs, 0⟩ = false then (4, ⟨v, ins, outs, 0⟩, s) else (0, ⟨v, ins, outs, numV s 4⟩, numS s 4)
def rT3 (v : Nat) (m : Bool) (ins : List TIn) (outs : List TOut) (s : Option (List (BitVec 8))) : Int × TTx × Option (List (BitVec 8)) :=
  if m = true then (if (rX ins.length s).1 = 0 then rT4 v m (wW ins (rX ins.length s).2.1) outs (rX ins.length s).2.2 else ((rX ins.length s).1, ⟨v, ins, outs, 0⟩, (rX ins.length s).2.2)) else rT4 v m ins outs s
def rT2 (v : Nat) (m : Bool) (ins : List TIn) (s : Option (List (BitVec 8))) : Int × TTx × Option (List (BitVec 8)) :=
  if (rOuts s).1 = 0 then rT3 v m ins (rOuts s).2.1 (rOuts s).2.2 else ((rOuts s).1, ⟨v, ins, [], 0⟩, (rOuts s).2.2)
def rT1 (v : Nat) (m : Bool) (s : Option (List (BitVec 8))) : Int × TTx × Option (List (BitVec 8)) :=
  if (rIns s).1 = 0 then rT2 v m (rIns s).2.1 (rIns s).2.2 else ((rIns s).1, ⟨v, [], [], 0⟩, (rIns s).2.2)
def rT (s : Option (List (BitVec 8))) : Int × TTx × Option (List (BitVec 8)) :=
  if rM (numS s 4) = true then rT1 (numV s 4) true (cutS (numS s 4) 2) else rT1 (numV s 4) false (numS s 4)
/-- What Parse answers. -/
def rP (s : Option (List (BitVec 8))) : Int × TTx × Option (List (BitVec 8)) :=
  if (rT s).1 = 0 ∧ (rT s).2.2.isNone = true then (4, ⟨0, [], [], 0⟩, (rT s).2.2) else if (rT s).1 = 0 then rT s else ((rT s).1, ⟨0, [], [], 0⟩, (rT s).2.2)
theorem mark_lit : strB [0, 1] = ({ data := #[0, 1] } : ByteArray) := by kernel_rfl
theorem mark_beq (X : List (BitVec 8)) : ((strB X).toList == ([0, 1] : List UInt8)) = decide (X = [0, 1]) := by
  have e : ([0, 1] : List UInt8) = (strB [0, 1]).toList := by rw [strB_list]; rfl
  rw [e]; exact strB_beq X [0, 1]
open Go.RowKit
set_option linter.unusedVariables false
set_option linter.unusedSimpArgs false
set_option maxRecDepth 100000
theorem lev_les (n : Nat) : ∀ k, lev (les n k) = n % 2 ^ (8 * k)
  | 0 => by simp [les, lev, Nat.mod_one]
  | k + 1 => by
    rw [les_succ, lev_app, lev_les n k, les_len]
    simp only [lev, BitVec.toNat_ofNat, Nat.mul_zero, Nat.add_zero]
    rw [show 8 * (k + 1) = 8 * k + 8 by omega, Nat.pow_add, Nat.mod_mul]
theorem fol_zero {b : Nat} (h : b < 253) : fol b = 0 := by
  unfold fol
  rw [if_neg (by omega), if_neg (by omega), if_neg (by omega)]
theorem wid_big {n : Nat} (h : ¬ n < 253) (h64 : n < 18446744073709551616) : n < 2 ^ (8 * wid n) := by
  unfold wid
  rw [if_neg h]
  split
  · omega
  · split
    · omega
    · omega
theorem lev_wid {n : Nat} (h : ¬ n < 253) (h64 : n < 18446744073709551616) : lev (les n (wid n)) = n := by
  rw [lev_les, Nat.mod_eq_of_lt (wid_big h h64)]
theorem form_pre {a b : Nat} (ha : a < 18446744073709551616) (hb : b < 18446744073709551616) (X Y : List (BitVec 8)) (h : form a ++ X = form b ++ Y) : a = b ∧ X = Y := by
  unfold form at h
  rw [List.cons_append, List.cons_append] at h
  injection h with h1 h2
  have e1 : fst a = fst b := by
    have := congrArg BitVec.toNat h1
    rw [BitVec.toNat_ofNat, BitVec.toNat_ofNat, Nat.mod_eq_of_lt (fst_lt a), Nat.mod_eq_of_lt (fst_lt b)] at this
    exact this
  have e2 : wid a = wid b := by rw [← fol_fst, ← fol_fst, e1]
  have e3 := List.append_inj h2 (by rw [les_len, les_len, e2])
  refine ⟨?_, e3.2⟩
  by_cases h3 : a < 253
  · have h4 : fst a = a := by simp [fst, h3]
    by_cases h5 : b < 253
    · have h6 : fst b = b := by simp [fst, h5]
      omega
    · have h7 : wid a = 0 := by simp [wid, h3]
      have h8 := wid_big h5 hb
      rw [← e2, h7] at h8
      omega
  · by_cases h5 : b < 253
    · have h7 : wid b = 0 := by simp [wid, h5]
      have h8 := wid_big h3 ha
      rw [e2, h7] at h8
      omega
    · have h9 := lev_wid h3 ha
      have h10 := lev_wid h5 hb
      rw [e3.1] at h9
      omega
theorem num1_cons (c : BitVec 8) (r : List (BitVec 8)) : numV (some (c :: r)) 1 = c.toNat ∧ numS (some (c :: r)) 1 = some r := by
  have hb : hasB (some (c :: r)) 1 = true := by simp [hasB]; omega
  have hw : isW 1 = true := rfl
  obtain ⟨h1, h2, _⟩ := cut_yes hb
  refine ⟨?_, ?_⟩
  · unfold numV; rw [if_pos hw, h1]; simp [lev]
  · unfold numS; rw [if_pos hw, h2]; simp
theorem num1_nil : numV (some []) 1 = 0 ∧ numS (some []) 1 = none := by
  constructor <;> decide
theorem numW_yes {W : Nat} (hW : isW W = true) {r : List (BitVec 8)} (h : W ≤ r.length) : numV (some r) W = lev (r.take W) ∧ numS (some r) W = some (r.drop W) := by
  have hb : hasB (some r) W = true := by simp [hasB]; omega
  obtain ⟨h1, h2, _⟩ := cut_yes hb
  refine ⟨?_, ?_⟩
  · unfold numV; rw [if_pos hW, h1]; simp
  · unfold numS; rw [if_pos hW, h2]; simp
theorem numW_no {W : Nat} {r : List (BitVec 8)} (h : r.length < W) : numS (some r) W = none := by
  have hb : hasB (some r) W = false := by simp [hasB]; omega
  unfold numS
  split
  · exact (cut_no hb).2
  · rfl
theorem fol_W {b : Nat} (h : fol b ≠ 0) : isW (fol b) = true := by
  unfold fol at h ⊢
  split
  · rfl
  · rename_i h1
    rw [if_neg h1] at h
    split
    · rfl
    · rename_i h2
      rw [if_neg h2] at h
      split
      · rfl
      · rename_i h3
        rw [if_neg h3] at h; exact absurd rfl h
theorem les_lev : ∀ (L : List (BitVec 8)), les (lev L) L.length = L := by
  intro L
  apply List.ext_getElem
  · rw [les_len]
  · intro i h1 h2
    have key : ∀ (L : List (BitVec 8)) (i : Nat) (h : i < L.length), BitVec.ofNat 8 (lev L / 2 ^ (8 * i)) = L[i] := by
      intro L
      induction L with
      | nil => intro i h; simp at h
      | cons x r ih =>
        intro i h
        have hx := x.isLt
        cases i with
        | zero =>
          apply BitVec.eq_of_toNat_eq
          simp [lev]
          omega
        | succ i =>
          rw [show 8 * (i + 1) = 8 + 8 * i by omega, Nat.pow_add, ← Nat.div_div_eq_div_mul, lev, show (x.toNat + 256 * lev r) / 2 ^ 8 = lev r by omega]
          simpa using ih i (by simpa using h)
    have := key L i h2
    simpa [les] using this
theorem fst_lo {n : Nat} (h : n < 253) : fst n = n := by simp [fst, h]
theorem lo_of_fol {b : Nat} (h : fol b = 0) (h2 : b < 256) : b < 253 := by
  rcases Nat.lt_or_ge b 253 with h1 | h1
  · exact h1
  · exfalso
    have : b = 253 ∨ b = 254 ∨ b = 255 := by omega
    rcases this with rfl | rfl | rfl <;> exact absurd h (by decide)
/-- What Get finds is a form, and what it leaves lies behind it. -/
theorem get_form {X : List (BitVec 8)} {most : Nat} (h : gE (some X) most = 0) : ∃ Y, X = form (gN (some X)) ++ Y ∧ gS (some X) = some Y ∧ gN (some X) < 18446744073709551616 := by
  have hg : ¬ ((gS (some X)).isNone = true ∨ numV (some X) 1 ≠ fst (gN (some X))) := by
    intro hh
    unfold gE at h
    rw [if_pos hh] at h
    exact absurd h (by decide)
  have hg1 : ¬ (gS (some X)).isNone = true := fun hh => hg (.inl hh)
  have hg2 : numV (some X) 1 = fst (gN (some X)) := Classical.byContradiction fun hh => hg (.inr hh)
  cases X with
  | nil =>
    exfalso
    apply hg1
    unfold gS
    rw [num1_nil.1, if_pos (show fol 0 = 0 from rfl), num1_nil.2]
    rfl
  | cons c r =>
    obtain ⟨e1, e2⟩ := num1_cons c r
    have hc := c.isLt
    by_cases hw : fol c.toNat = 0
    · have eN : gN (some (c :: r)) = c.toNat := by unfold gN; rw [e1, if_pos hw]
      have eS : gS (some (c :: r)) = some r := by unfold gS; rw [e1, if_pos hw, e2]
      refine ⟨r, ?_, eS, by rw [eN]; omega⟩
      have hlo := lo_of_fol hw hc
      rw [eN]
      unfold form
      rw [fst_lo hlo, show wid c.toNat = 0 by simp [wid, hlo]]
      simp [les]
    · have eN : gN (some (c :: r)) = numV (some r) (fol c.toNat) := by unfold gN; rw [e1, if_neg hw, e2]
      have eS : gS (some (c :: r)) = numS (some r) (fol c.toNat) := by unfold gS; rw [e1, if_neg hw, e2]
      rcases Nat.lt_or_ge r.length (fol c.toNat) with hl | hl
      · exfalso; apply hg1; rw [eS, numW_no hl]; rfl
      · obtain ⟨f1, f2⟩ := numW_yes (fol_W hw) hl
        rw [e1, eN, f1] at hg2
        refine ⟨r.drop (fol c.toNat), ?_, by rw [eS, f2], ?_⟩
        · rw [eN, f1]
          unfold form
          rw [← fol_fst, ← hg2]
          have := les_lev (r.take (fol c.toNat))
          rw [List.length_take, Nat.min_eq_left hl] at this
          rw [this]
          simp
        · rw [eN, f1]
          have h1 := lev_lt (r.take (fol c.toNat))
          have h2 : (r.take (fol c.toNat)).length ≤ 8 := by
            have := isW_pos (fol_W hw)
            rw [List.length_take]; omega
          have : 2 ^ (8 * (r.take (fol c.toNat)).length) ≤ 2 ^ 64 := Nat.pow_le_pow_right (by omega) (by omega)
          omega
/-- Get of a form tells its number, and leaves what lies behind. -/
theorem get_of_form (n : Nat) (hn : n < 18446744073709551616) (Y : List (BitVec 8)) : gN (some (form n ++ Y)) = n ∧ gS (some (form n ++ Y)) = some Y ∧ ∀ most, gE (some (form n ++ Y)) most = if most < n then 3 else 0 := by
  have hc : form n ++ Y = BitVec.ofNat 8 (fst n) :: (les n (wid n) ++ Y) := rfl
  obtain ⟨e1, e2⟩ := num1_cons (BitVec.ofNat 8 (fst n)) (les n (wid n) ++ Y)
  rw [← hc] at e1 e2
  have e3 : (BitVec.ofNat 8 (fst n)).toNat = fst n := by
    rw [BitVec.toNat_ofNat]; have := fst_lt n; omega
  rw [e3] at e1
  have key : gN (some (form n ++ Y)) = n ∧ gS (some (form n ++ Y)) = some Y := by
    by_cases hw : wid n = 0
    · have hlo : n < 253 := by
        rcases Nat.lt_or_ge n 253 with h | h
        · exact h
        · have := wid_big (Nat.not_lt.2 h) hn
          rw [hw] at this; omega
      have hf : fol (fst n) = 0 := by rw [fol_fst, hw]
      refine ⟨?_, ?_⟩
      · unfold gN; rw [e1, if_pos hf, fst_lo hlo]
      · unfold gS; rw [e1, if_pos hf, e2, hw]; simp [les]
    · have hf : fol (fst n) ≠ 0 := by rw [fol_fst]; exact hw
      have hW := fol_W hf
      rw [fol_fst] at hW
      obtain ⟨f1, f2⟩ := numW_yes (W := wid n) hW (r := les n (wid n) ++ Y) (by rw [List.length_append, les_len]; omega)
      have hnl : ¬ n < 253 := fun h => hw (by simp [wid, h])
      refine ⟨?_, ?_⟩
      · unfold gN
        rw [e1, if_neg hf, e2, fol_fst, f1, List.take_append_of_le_length (by rw [les_len]; exact Nat.le_refl _), List.take_of_length_le (by rw [les_len]; exact Nat.le_refl _), lev_wid hnl hn]
      · unfold gS
        rw [e1, if_neg hf, e2, fol_fst, f2, List.drop_append_of_le_length (by rw [les_len]; exact Nat.le_refl _), List.drop_eq_nil_of_le (by rw [les_len]; exact Nat.le_refl _)]
        rfl
  refine ⟨key.1, key.2, fun most => ?_⟩
  unfold gE
  rw [key.1, key.2, e1, if_neg (by simp)]
/-- Of a form that is cut nothing is got, and the reader is torn. -/
theorem get_cut (n i : Nat) (hi : i < (form n).length) : gS (some ((form n).take i)) = none := by
  cases i with
  | zero =>
    rw [List.take_zero]
    unfold gS
    rw [num1_nil.1, if_pos (show fol 0 = 0 from rfl), num1_nil.2]
  | succ i =>
    rw [form_len] at hi
    have hc : (form n).take (i + 1) = BitVec.ofNat 8 (fst n) :: (les n (wid n)).take i := rfl
    obtain ⟨e1, e2⟩ := num1_cons (BitVec.ofNat 8 (fst n)) ((les n (wid n)).take i)
    rw [← hc] at e1 e2
    have e3 : (BitVec.ofNat 8 (fst n)).toNat = fst n := by
      rw [BitVec.toNat_ofNat]; have := fst_lt n; omega
    rw [e3] at e1
    unfold gS
    rw [e1, fol_fst, if_neg (by omega), e2]
    exact numW_no (by rw [List.length_take, les_len]; omega)
theorem gE_cut {s : Option (List (BitVec 8))} (h : gS s = none) (most : Nat) : gE s most = 4 := by
  unfold gE
  rw [h, if_pos (Or.inl (show (none : Option (List (BitVec 8))).isNone = true from rfl))]
end Go.Proofs.YtnkkhmgplpkjbaaDoor
