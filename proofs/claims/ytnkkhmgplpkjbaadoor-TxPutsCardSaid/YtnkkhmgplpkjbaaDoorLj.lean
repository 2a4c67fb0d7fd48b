/- What the closure that writes a witness, and writtenWitnesses, return. -/
import Derived.Test.YtnkkhmgplpkjbaaDoorLi
import Derived.Outline
namespace Go.Proofs.YtnkkhmgplpkjbaaDoor
open Go.RowKit
set_option linter.unusedVariables false
set_option linter.unusedSimpArgs false
set_option maxRecDepth 100000
theorem wp_calm_any {P : Program} {c : Code} {Q' : Exit → Act → World → Prop} {a : Act} {w : World}
    (h : c.wp P (Exit.then (fun a w => Q' .normal a w) fun _ _ _ => False) a w) : c.wp P Q' a w :=
  Code.wp_mono (fun e a w q => by cases e <;> first | exact q | exact q.elim) h
theorem flat_le {α : Type} (f : α → List (BitVec 8)) (k : Nat) : ∀ (l : List α), (∀ x ∈ l, (f x).length ≤ k) → (l.map f).flatten.length ≤ l.length * k
  | [], _ => by simp
  | x :: l, h => by
    have h1 := h x (List.mem_cons_self ..)
    have h2 := flat_le f k l fun y hy => h y (List.mem_cons_of_mem _ hy)
    simp only [List.map_cons, List.flatten_cons, List.length_append, List.length_cons, Nat.add_mul, Nat.one_mul]
    omega
theorem flat_succ {α : Type} (f : α → List (BitVec 8)) (l : List α) (d : α) (i : Nat) (h : i < l.length) : ((l.take (i + 1)).map f).flatten = ((l.take i).map f).flatten ++ f (l.getD i d) := by
  rw [List.take_succ_eq_append_getElem h, List.map_append, List.flatten_append]
  simp [List.getD, h]
theorem getD_mem {α : Type} (l : List α) (d : α) (i : Nat) (h : i < l.length) : l.getD i d ∈ l := by
  have : l.getD i d = l[i] := by simp [List.getD, h]
  rw [this]; exact List.getElem_mem h
theorem take_sub {α : Type} {l : List α} {i : Nat} {P : α → Prop} (h : ∀ x ∈ l, P x) : ∀ x ∈ l.take i, P x := fun x hx => h x (List.mem_of_mem_take hx)
set_option maxHeartbeats 8000000 in
theorem wWit_any (x : TIn) (s u : Value) (g o B cb : Nat) (v : Value) (w0 w : World) (L : List (BitVec 8)) (hg : g < B) (hr : w0.rangeAt g o (inV x s u)) (hok : InOk w0 B x s u) (hC : CapV w0 B cb v w L) (hl : L.length ≤ 1000000) (hwl : x.wt.length ≤ 1000) (hwi : ∀ t ∈ x.wt, t.length ≤ 1000) :
    Calls Tryd.prog 98 #[.pointer (some ⟨g, o, none⟩), .pointer (some ⟨cb, 0, none⟩)] w (WrPost w0 B cb (L ++ witB x)) := by
  obtain ⟨hs, hu, h32, hix, hsq⟩ := hok
  obtain ⟨e32, e33, e34, e35⟩ := inV_at (x := x) (s := s) (v := u) h32
  obtain ⟨A2, c2, rfl, _, _, hrow⟩ := hu
  have c35 := hr 35 _ e35
  have HX : Hid (∀ wq, Below B w0 wq → wq.cell? ⟨g, o + 35, none⟩ = some (.slice A2 x.wt.length c2)) := fun wq hq => by rw [hq.cell (p := ⟨g, o + 35, none⟩) hg]; exact c35
  obtain ⟨X, hX⟩ : ∃ X, X = x.wt := ⟨_, rfl⟩
  have eW : witB x = form X.length ++ (X.map txt).flatten := by rw [hX]; rfl
  rw [← hX] at HX hrow hwl hwi
  obtain ⟨n, hn⟩ : ∃ n, n = X.length := ⟨_, rfl⟩
  have HR : Hid (∀ i, i < n → ∃ wb wo Ai ci, A2 = some ⟨wb, wo, none⟩ ∧ wb < B ∧ w0.cell? ⟨wb, wo + i, none⟩ = some (.slice Ai (X.getD i []).length ci) ∧ Rd w0 B Ai (X.getD i []) ∧ (Ai = none → ci = 0)) := fun i hi => by
    obtain ⟨wb, wo, e, hlt, hh⟩ := hrow (by omega)
    obtain ⟨ui, hc, Ai, ci, rfl, hrd, _, _, hcn⟩ := hh i (by omega)
    rw [Nat.mul_one] at hc
    exact ⟨wb, wo, Ai, ci, e, hlt, hc, hrd, hcn⟩
  have Hwi := Lib.hid hwi
  rw [← hn] at HX hwl
  obtain ⟨m1, hm1⟩ : ∃ m, m = (form n).length := ⟨_, rfl⟩
  have hm1l : m1 ≤ 9 := by rw [hm1, form_len]; have := wid_le n; omega
  have K1 := Lib.hid (fun wq => count_w n m1 wq (by omega) hm1.symm)
  obtain ⟨L0, hL0⟩ : ∃ M, M = L ++ witB x := ⟨_, rfl⟩
  rw [← hL0]
  have HL0 : Hid (L0 = L ++ (form n ++ (X.map txt).flatten)) := show L0 = L ++ (form n ++ (X.map txt).flatten) by rw [hL0, eW, hn]
  have Hn := Lib.hid hn
  have Hm1 := Lib.hid hm1
  clear hs hr e32 e33 e34 e35 hrow c35 hX eW hn hm1 hL0 hwi h32
  go_enter Tryd.func98, Tryd.ntmps98
  go_upto_region 1 with fail
  generalize hWd : w.drew = Wd
  have hCd : CapV w0 B cb v Wd L := by rw [← hWd]; exact hC.drew
  have EC : Hid (∀ wq, SB Wd wq → wq.cell? ⟨cb, 0, none⟩ = some v) := fun wq hq => hq.cell (hCd.blk.cell rfl)
  have EX : Hid (∀ wq, SB Wd wq → wq.cell? ⟨g, o + 35, none⟩ = some (.slice A2 n c2)) := fun wq hq => hq.cell (HX.out Wd hCd.bel)
  have HCd := Lib.hid hCd
  clear hCd hC
  refine wp_region_to (z := 7) (SB Wd) (by kernel_rfl) ?_
  rw [hWd]
  have hS : SB Wd Wd := SB.refl Wd
  clear hWd
  refine AnyTo.take (i := 0) (v := v) rfl (by kernel_rfl) (by kernel_rfl) (by kernel_rfl) (by kernel_rfl) (by kernel_rfl) (fun _ _ _ h => h) (Or.inl ⟨by rfl, ?_⟩) hS ?_
  · intro wq hq
    have dq0 := EC.out wq hq
    go_simp
  try simp only [Act.put, List.setIfInBounds_toArray, List.set_cons_zero, List.set_cons_succ, List.getElem_toArray, List.getElem_cons_zero, List.getElem_cons_succ]
  refine AnyTo.take (i := 1) (v := ?_) rfl (by kernel_rfl) (by kernel_rfl) (by kernel_rfl) (by kernel_rfl) (by kernel_rfl) (fun _ _ _ h => h) (Or.inl ⟨by rfl, ?_⟩) hS ?_
  rotate_left
  · (intro wq hq; go_simp; try with_reducible rfl)
  try simp only [Act.put, List.setIfInBounds_toArray, List.set_cons_zero, List.set_cons_succ, List.getElem_toArray, List.getElem_cons_zero, List.getElem_cons_succ]
  refine AnyTo.take (i := 2) (v := ?_) rfl (by kernel_rfl) (by kernel_rfl) (by kernel_rfl) (by kernel_rfl) (by kernel_rfl) (fun _ _ _ h => h) (Or.inl ⟨by rfl, ?_⟩) hS ?_
  rotate_left
  · (intro wq hq; go_simp; try with_reducible rfl)
  try simp only [Act.put, List.setIfInBounds_toArray, List.set_cons_zero, List.set_cons_succ, List.getElem_toArray, List.getElem_cons_zero, List.getElem_cons_succ]
  refine AnyTo.take (i := 3) (v := ?_) rfl (by kernel_rfl) (by kernel_rfl) (by kernel_rfl) (by kernel_rfl) (by kernel_rfl) (fun _ _ _ h => h) (Or.inl ⟨by rfl, ?_⟩) hS ?_
  rotate_left
  · (intro wq hq; go_simp; try with_reducible rfl)
  try simp only [Act.put, List.setIfInBounds_toArray, List.set_cons_zero, List.set_cons_succ, List.getElem_toArray, List.getElem_cons_zero, List.getElem_cons_succ]
  refine AnyTo.take (i := 4) (v := .slice A2 n c2) rfl (by kernel_rfl) (by kernel_rfl) (by kernel_rfl) (by kernel_rfl) (by kernel_rfl) (fun _ _ _ h => h) (Or.inl ⟨by rfl, ?_⟩) hS ?_
  · intro wq hq
    have dq0 := EX.out wq hq
    go_simp
  try simp only [Act.put, List.setIfInBounds_toArray, List.set_cons_zero, List.set_cons_succ, List.getElem_toArray, List.getElem_cons_zero, List.getElem_cons_succ]
  refine AnyTo.take (i := 5) (v := ?_) rfl (by kernel_rfl) (by kernel_rfl) (by kernel_rfl) (by kernel_rfl) (by kernel_rfl) (fun _ _ _ h => h) (Or.inl ⟨by rfl, ?_⟩) hS ?_
  rotate_left
  · (intro wq hq; go_simp; try with_reducible rfl)
  try simp only [Act.put, List.setIfInBounds_toArray, List.set_cons_zero, List.set_cons_succ, List.getElem_toArray, List.getElem_cons_zero, List.getElem_cons_succ]
  have HCa := HCd.out
  refine AnyTo.gone (i := 6) (by kernel_rfl) rfl (by rfl) (fun K hK => ?_)
  go_simp
  (with_reducible refine (K1.out _).mono ?_)
  rintro e wc ⟨Ac, cc, rfl, hsr, hcc, hbc⟩
  have hS : SB Wd wc := SB.next (SB.refl Wd) hbc
  have HCa := HCa.next hbc
  dsimp only
  refine hK _ _ (fun _ => hS) ?_
  clear hK K
  try simp only [Act.put, List.setIfInBounds_toArray, List.set_cons_zero, List.set_cons_succ, List.getElem_toArray, List.getElem_cons_zero, List.getElem_cons_succ]
  refine AnyTo.gone (i := 7) (by kernel_rfl) rfl (by rfl) (fun K hK => ?_)
  refine wp_app (.tmp 6) (.tmp 12) rfl rfl B v L.length (vbs L) rfl HCa.ob Ac m1 cc (vbs (form n)) rfl hsr hcc (by omega) HCa.hB ?_
  intro vp wa h1 h2
  obtain ⟨ca, fa, hC, Axp, lxp, cxp, rfl⟩ := CapV.app HCa h1 h2
  refine hK _ _ (fun h => absurd h (by decide)) ?_
  clear hK K
  try simp only [Act.put, List.setIfInBounds_toArray, List.set_cons_zero, List.set_cons_succ, List.getElem_toArray, List.getElem_cons_zero, List.getElem_cons_succ]
  refine AnyTo.gone (i := 8) (by kernel_rfl) rfl (by rfl) (fun K hK => ?_)
  go_simp
  refine hK _ _ (fun h => absurd h (by decide)) ?_
  clear hK K
  try simp only [Act.put, List.setIfInBounds_toArray, List.set_cons_zero, List.set_cons_succ, List.getElem_toArray, List.getElem_cons_zero, List.getElem_cons_succ]
  refine AnyTo.done (by kernel_rfl) ?_ _
  try dsimp only [Exit.then]
  generalize wa.setCell ⟨cb, 0, none⟩ (.slice Axp lxp cxp) = wp at hC ⊢
  clear ca fa h1 h2 HCa HCd EC
  obtain ⟨L1, hL1⟩ : ∃ M, M = L ++ form n := ⟨_, rfl⟩
  have hl1 : L1.length ≤ 1000036 := by rw [hL1, List.length_append, ← Hm1.out]; omega
  rw [← hL1] at hC
  have HL1 := Lib.hid hL1
  have c35 := HX.out wp hC.bel
  have HC := Lib.hid hC
  clear hL1 EX hsr hcc hbc hS hC
  go_wp2_with fail
  go_loopw [19] (fun iv wq => ∃ (i : Nat) (z : Value), i ≤ n ∧ iv = .int .i64 (i : Int) ∧ CapV w0 B cb z wq (L1 ++ ((X.take i).map txt).flatten)) (fun iv _ => n - (intOf iv).toNat)
  case atStart => exact ⟨0, _, Nat.zero_le _, rfl, by simpa using HC.out⟩
  case round =>
    clear HC c35
    obtain ⟨i, z, hi, rfl, hC⟩ := hrel
    by_cases hlt : i < n
    · have hlt' : (i : Int) < (n : Int) := by omega
      obtain ⟨wb, wo, Ai, ci, rfl, hwb, hcell, hrd, hcn⟩ := HR.out i hlt
      have c0 : wr.cell? ⟨wb, wo + i, none⟩ = some (.slice Ai (X.getD i []).length ci) := by rw [hC.bel.cell (p := ⟨wb, wo + i, none⟩) hwb]; exact hcell
      obtain ⟨T, hT⟩ : ∃ T, T = X.getD i [] := ⟨_, rfl⟩
      have hTl : T.length ≤ 1000 := by rw [hT]; exact Hwi.out _ (getD_mem _ _ _ (by rw [← Hn.out]; exact hlt))
      have hst := flat_succ txt X [] i (by rw [← Hn.out]; exact hlt)
      have hbd : ((X.take i).map txt).flatten.length ≤ i * 1009 := by
        have := flat_le txt 1009 (X.take i) (take_sub fun t ht => by have h1 := txt_len t; have h2 := Hwi.out t ht; omega)
        rw [List.length_take, Nat.min_eq_left (by rw [← Hn.out]; exact hi)] at this
        exact this
      rw [← hT] at c0 hrd hst
      obtain ⟨m2, hm2⟩ : ∃ m, m = (txt T).length := ⟨_, rfl⟩
      have hm2l : m2 ≤ 1009 := by have := txt_len T; omega
      obtain ⟨n1, hn1⟩ : ∃ n, n = T.length := ⟨_, rfl⟩
      have K2 : Hid (∀ wq, Below B w0 wq → B ≤ wq.heap.size → Calls Tryd.prog 71 #[.slice none 0 0, .slice Ai n1 ci] wq fun e w' => ∃ A c, e = .returned (.slice A m2 c) ∧ Src22 w' A m2 (vbs (txt T)) ∧ (A = none → c = 0) ∧ Below wq.heap.size wq w') := fun wq hq hB =>
        text_w T Ai n1 ci m2 wq hn1.symm hm2.symm ((hrd.keep hq).up hB) hcn (by omega)
      rw [← hn1] at c0
      obtain ⟨L2, hL2⟩ : ∃ M, M = L1 ++ ((X.take i).map txt).flatten := ⟨_, rfl⟩
      have hl2 : L2.length ≤ 2100036 := by rw [hL2, List.length_append]; omega
      have HS2 : Hid (L1 ++ ((X.take (i + 1)).map txt).flatten = L2 ++ txt T) := show L1 ++ ((X.take (i + 1)).map txt).flatten = L2 ++ txt T by rw [hst, hL2, List.append_assoc]
      rw [← hL2] at hC
      have HC := Lib.hid hC
      clear hcell hrd hcn hT hst hbd hm2 hn1 hL2 hC hTl
      go_upto_region 5 with fail
      have hC := HC.out
      clear HC
      generalize hWd : wr.drew = Wd
      have hCd : CapV w0 B cb z Wd L2 := by rw [← hWd]; exact hC.drew
      have EC : Hid (∀ wq, SB Wd wq → wq.cell? ⟨cb, 0, none⟩ = some z) := fun wq hq => hq.cell (hCd.blk.cell rfl)
      have HCd := Lib.hid hCd
      clear hCd hC
      refine wp_calm_any ?_
      refine wp_region_to (z := 3) (SB Wd) (by kernel_rfl) ?_
      rw [hWd]
      have hS : SB Wd Wd := SB.refl Wd
      clear hWd
      refine AnyTo.take (i := 0) (v := z) rfl (by kernel_rfl) (by kernel_rfl) (by kernel_rfl) (by kernel_rfl) (by kernel_rfl) (fun _ _ _ h => h) (Or.inl ⟨by rfl, ?_⟩) hS ?_
      · intro wq hq
        have dq0 := EC.out wq hq
        go_simp
      try simp only [Act.put, List.setIfInBounds_toArray, List.set_cons_zero, List.set_cons_succ, List.getElem_toArray, List.getElem_cons_zero, List.getElem_cons_succ]
      refine AnyTo.take (i := 1) (v := ?_) rfl (by kernel_rfl) (by kernel_rfl) (by kernel_rfl) (by kernel_rfl) (by kernel_rfl) (fun _ _ _ h => h) (Or.inl ⟨by rfl, ?_⟩) hS ?_
      rotate_left
      · (intro wq hq; go_simp; try with_reducible rfl)
      try simp only [Act.put, List.setIfInBounds_toArray, List.set_cons_zero, List.set_cons_succ, List.getElem_toArray, List.getElem_cons_zero, List.getElem_cons_succ]
      have HCa := HCd.out
      refine AnyTo.gone (i := 2) (by kernel_rfl) rfl (by rfl) (fun K hK => ?_)
      go_simp
      (with_reducible refine (K2.out _ HCa.bel HCa.hB).mono ?_)
      rintro e wc ⟨Ac, cc, rfl, hsr, hcc, hbc⟩
      have hS : SB Wd wc := SB.next (SB.refl Wd) hbc
      have HCa := HCa.next hbc
      dsimp only
      refine hK _ _ (fun _ => hS) ?_
      clear hK K
      try simp only [Act.put, List.setIfInBounds_toArray, List.set_cons_zero, List.set_cons_succ, List.getElem_toArray, List.getElem_cons_zero, List.getElem_cons_succ]
      refine AnyTo.gone (i := 3) (by kernel_rfl) rfl (by rfl) (fun K hK => ?_)
      refine wp_app (.tmp 23) (.tmp 25) rfl rfl B z L2.length (vbs L2) rfl HCa.ob Ac m2 cc (vbs (txt T)) rfl hsr hcc (by omega) HCa.hB ?_
      intro vt wa h1 h2
      obtain ⟨ca, fa, hC, Axt, lxt, cxt, rfl⟩ := CapV.app HCa h1 h2
      refine hK _ _ (fun h => absurd h (by decide)) ?_
      clear hK K
      try simp only [Act.put, List.setIfInBounds_toArray, List.set_cons_zero, List.set_cons_succ, List.getElem_toArray, List.getElem_cons_zero, List.getElem_cons_succ]
      refine AnyTo.gone (i := 4) (by kernel_rfl) rfl (by rfl) (fun K hK => ?_)
      go_simp
      refine hK _ _ (fun h => absurd h (by decide)) ?_
      clear hK K
      try simp only [Act.put, List.setIfInBounds_toArray, List.set_cons_zero, List.set_cons_succ, List.getElem_toArray, List.getElem_cons_zero, List.getElem_cons_succ]
      refine AnyTo.done (by kernel_rfl) ?_ _
      try dsimp only [Exit.then]
      generalize wa.setCell ⟨cb, 0, none⟩ (.slice Axt lxt cxt) = wt at hC ⊢
      clear ca fa h1 h2 HCa HCd EC
      have HC := Lib.hid hC
      clear hC hsr hcc hbc hS
      go_wp2_with fail
      go_roundw
      case rel => exact ⟨i + 1, _, by omega, by go_num, by rw [HS2.out]; exact HC.out⟩
      case measure => simp [intOf]; omega
    · obtain rfl : i = n := by omega
      have hlt' : ¬ (i : Int) < (i : Int) := by omega
      rw [List.take_of_length_le (by rw [Hn.out]; exact Nat.le_refl _)] at hC
      have HC := Lib.hid hC
      clear hC
      go_wp2_with fail
      go_ret
      exact ⟨rfl, _, by rw [HL0.out, ← List.append_assoc, ← HL1.out]; exact HC.out⟩
/-- The bytes of all inputs' witnesses. -/
def witsB (xs : List TIn) : List (BitVec 8) := (xs.map witB).flatten
/-- Witnesses short enough to be written. -/
def WitOk (xs : List TIn) : Prop := ∀ x ∈ xs, x.wt.length ≤ 8 ∧ ∀ t ∈ x.wt, t.length ≤ 128
theorem witB_le {xs : List TIn} (h : WitOk xs) : ∀ x ∈ xs, (witB x).length ≤ 2000 := fun x hx => by
  obtain ⟨h1, h2⟩ := h x hx
  have h3 := flat_le txt 137 x.wt fun t ht => by have := txt_len t; have := h2 t ht; omega
  have h4 := wid_le x.wt.length
  simp only [witB, List.length_append, form_len]
  omega
set_option maxHeartbeats 4000000 in
theorem wits_any (xs : List TIn) (i : Value) (w : World) (h : Is w w.heap.size i xs) (hl : xs.length ≤ 16) (hok : WitOk xs) : Calls Tryd.prog 74 #[i] w (LaidPost (witsB xs) w) := by
  obtain ⟨A, cap, rfl, _, _, hrow⟩ := h
  obtain ⟨b, o, hA, hb⟩ : ∃ b o, (0 < xs.length → A = some ⟨b, o, none⟩) ∧ ∀ j, j < xs.length → b < w.heap.size ∧ ∃ s u, w.rangeAt b (o + j * 36) (inV (xs.getD j In0) s u) ∧ InOk w w.heap.size (xs.getD j In0) s u := by
    by_cases hp : 0 < xs.length
    · obtain ⟨b, o, e, hlt, hh⟩ := hrow hp
      exact ⟨b, o, fun _ => e, fun j hj => ⟨hlt, hh j hj⟩⟩
    · exact ⟨0, 0, fun h => absurd h hp, fun j hj => by omega⟩
  have hC1 : CapV w w.heap.size w.heap.size (.slice none 0 0) (w.alloc (.cells #[.slice none 0 0] 27)) [] := ⟨Blk.new w 27 #[.slice none 0 0], OB.nil _ _, (Below.refl _ _).alloc (Nat.le_refl _) _, Nat.le_refl _, Nat.le_refl _⟩
  have K := Lib.hid (each_wit (fun j => ((xs.take j).map witB).flatten) A xs.length cap b o w.heap.size w.heap.size w _ _ hA (by omega) (fun j hj wq u hC => by
    obtain ⟨hlt, s, u', hr, hk⟩ := hb j hj
    have hle : ((xs.take j).map witB).flatten.length ≤ j * 2000 := by
      have := flat_le witB 2000 (xs.take j) (take_sub (witB_le hok))
      rw [List.length_take, Nat.min_eq_left (by omega)] at this
      exact this
    obtain ⟨k1, k2⟩ := hok _ (getD_mem xs In0 j hj)
    have := wWit_any (xs.getD j In0) s u' b (o + j * 36) w.heap.size w.heap.size u w wq _ hlt hr hk hC (by omega) (by omega) (fun t ht => by have := k2 t ht; omega)
    rw [← flat_succ witB xs In0 j hj] at this
    exact this) hC1)
  rw [List.take_of_length_le (Nat.le_refl _)] at K
  obtain ⟨n, hn⟩ : ∃ n, n = xs.length := ⟨_, rfl⟩
  rw [← hn] at K ⊢
  clear hrow hA hb hC1 hok hn
  go_enter Tryd.func74, Tryd.ntmps74
  go_wp2_with (go_at_call 69; (with_reducible refine K.out.mono ?_); rintro e w2 ⟨rfl, v2, hC2⟩; have cv := hC2.blk.cell (j := 0) rfl; have HC2 := Lib.hid hC2; clear hC2; dsimp only)
  go_ret
  exact ⟨_, rfl, HC2.out.ob, HC2.out.bel⟩
end Go.Proofs.YtnkkhmgplpkjbaaDoor
