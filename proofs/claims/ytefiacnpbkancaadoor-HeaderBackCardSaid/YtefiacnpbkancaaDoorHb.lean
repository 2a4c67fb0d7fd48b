/- A header in memory and its bytes; what header.number and header.Put return. -/
import Derived.Test.YtefiacnpbkancaaDoorHa
namespace Go.Proofs.YtefiacnpbkancaaDoor
open Go.RowKit
set_option linter.unusedVariables false
set_option linter.unusedSimpArgs false
set_option maxRecDepth 100000
theorem number_any (n : Nat) (w : World) (hn : n < 4294967296) : Calls Tryd.prog 18 #[.int .u32 (n : Int)] w (LaidPost (les n 4) w) := by
  have h := bput_any none [] 0 0 4 n w (fun h => by simp at h) (Nat.zero_le _) (by omega) (by simp)
  have hy : isW (4 : Int) = true ∧ n < 2 ^ (8 * (4 : Int).toNat) := ⟨rfl, by simpa using hn⟩
  have K := Lib.hid h
  have HY := Lib.hid hy
  have hwv : IntKind.u64.wrap (n : Int) = (n : Int) := by rw [IntKind.wrap_u64]; omega
  clear h hy hn
  go_enter Tryd.func18, Tryd.ntmps18
  go_wp2_with (go_at_call 29; (refine K.out.mono ?_); rintro e w2 ⟨hb, h1, h2⟩; obtain ⟨v, rfl, ho⟩ := h1 HY.out; have HO := Lib.hid ho; clear h1 h2 ho; dsimp only)
  go_ret
  exact ⟨_, rfl, by simpa using HO.out, hb⟩
theorem number_w (n : Nat) (w : World) (hn : n < 4294967296) : Calls Tryd.prog 18 #[.int .u32 (n : Int)] w fun e w' => ∃ A c, e = .returned (.slice A 4 c) ∧ OB w' w.heap.size (.slice A 4 c) (les n 4) ∧ Below w.heap.size w w' :=
  (number_any n w hn).mono fun e w' ⟨v, he, ho, hb⟩ => by
    obtain ⟨A, c, rfl, _, _⟩ := slice_form ho
    rw [les_len] at ho he
    exact ⟨A, c, he, ho, hb⟩
/-- A header. -/
structure THd where
  ver : Nat
  prev : List (BitVec 8)
  root : List (BitVec 8)
  time : Nat
  bits : Nat
  nonce : Nat
/-- Its cells. -/
def hdV (h : THd) : List Value := .int .u32 (h.ver : Int) :: (vbs h.prev ++ (vbs h.root ++ [.int .u32 (h.time : Int), .int .u32 (h.bits : Int), .int .u32 (h.nonce : Int)]))
/-- Its bytes. -/
def hdB (h : THd) : List (BitVec 8) := [les h.ver 4, h.prev, h.root, les h.time 4, les h.bits 4, les h.nonce 4].flatten
structure HdOk (h : THd) : Prop where
  prev : h.prev.length = 32
  root : h.root.length = 32
  ver : h.ver < 4294967296
  time : h.time < 4294967296
  bits : h.bits < 4294967296
  nonce : h.nonce < 4294967296
theorem hdV_len {h : THd} (k : HdOk h) : (hdV h).length = 68 := by
  simp [hdV, vbs_len, k.prev, k.root]
theorem hdB_len {h : THd} (k : HdOk h) : (hdB h).length = 80 := by
  simp [hdB, les_len, k.prev, k.root]
theorem hdV_prev {h : THd} (k : HdOk h) {j : Nat} (hj : j < 32) : (hdV h)[1 + j]? = some (.int .u8 (Bt (h.prev.getD j 0))) := by
  have := k.prev
  unfold hdV
  rw [Nat.add_comm 1 j, List.getElem?_cons_succ, List.getElem?_append_left (by rw [vbs_len]; omega), vbs_at (by omega)]
theorem hdV_root {h : THd} (k : HdOk h) {j : Nat} (hj : j < 32) : (hdV h)[33 + j]? = some (.int .u8 (Bt (h.root.getD j 0))) := by
  have := k.prev
  have := k.root
  unfold hdV
  rw [show 33 + j = (32 + j) + 1 by omega, List.getElem?_cons_succ, List.getElem?_append_right (by rw [vbs_len]; omega), vbs_len, k.prev, Nat.add_sub_cancel_left, List.getElem?_append_left (by rw [vbs_len]; omega), vbs_at (by omega)]
theorem hdV_end {h : THd} (k : HdOk h) {j : Nat} {v : Value} (hv : ([.int .u32 (h.time : Int), .int .u32 (h.bits : Int), .int .u32 (h.nonce : Int)] : List Value)[j]? = some v) : (hdV h)[65 + j]? = some v := by
  have := k.prev
  have := k.root
  unfold hdV
  rw [show 65 + j = (64 + j) + 1 by omega, List.getElem?_cons_succ, List.getElem?_append_right (by rw [vbs_len]; omega), vbs_len, k.prev, List.getElem?_append_right (by rw [vbs_len]; omega), vbs_len, k.root, show 64 + j - 32 - 32 = j by omega]
  exact hv
/-- The header lies at block b, offset o. -/
def HdAt (w : World) (b : Nat) (h : THd) : Prop := w.rangeAt b 0 (hdV h) ∧ b < w.heap.size
theorem HdAt.keep {w w' : World} {b B : Nat} {h : THd} (H : HdAt w b h) (hb : Below B w w') (hB : b < B) (hs : w.heap.size ≤ w'.heap.size) : HdAt w' b h := ⟨range_keep H.1 hb hB, Nat.lt_of_lt_of_le H.2 hs⟩
theorem HdAt.sb {W w : World} {b : Nat} {h : THd} (H : HdAt W b h) (hs : SB W w) : HdAt w b h := H.keep hs H.2 hs.size
theorem HdAt.new (w : World) (h : THd) (T : TypeId) : HdAt (w.alloc (.cells (hdV h).toArray T)) w.heap.size h := ⟨(Blk.new w T (hdV h).toArray).range, by simp⟩
theorem HdAt.cell {w : World} {b : Nat} {h : THd} (H : HdAt w b h) {j : Nat} {v : Value} (hv : (hdV h)[j]? = some v) : w.cell? ⟨b, j, none⟩ = some v := by
  have := H.1 j v hv
  rwa [Nat.zero_add] at this
theorem HdAt.four {w : World} {b : Nat} {h : THd} (k : HdOk h) (H : HdAt w b h) : w.cell? ⟨b, 0, none⟩ = some (.int .u32 (h.ver : Int)) ∧ w.cell? ⟨b, 65, none⟩ = some (.int .u32 (h.time : Int)) ∧ w.cell? ⟨b, 66, none⟩ = some (.int .u32 (h.bits : Int)) ∧ w.cell? ⟨b, 67, none⟩ = some (.int .u32 (h.nonce : Int)) :=
  ⟨H.cell rfl, H.cell (hdV_end k (j := 0) rfl), H.cell (hdV_end k (j := 1) rfl), H.cell (hdV_end k (j := 2) rfl)⟩
theorem HdAt.prev {w : World} {b : Nat} {h : THd} (k : HdOk h) (H : HdAt w b h) (B : Nat) (hB : b < B) : Rd w B (some ⟨b, 1, none⟩) h.prev := fun _ =>
  ⟨b, 1, rfl, hB, fun j hj => H.cell (hdV_prev k (by rw [k.prev] at hj; exact hj))⟩
theorem HdAt.root {w : World} {b : Nat} {h : THd} (k : HdOk h) (H : HdAt w b h) (B : Nat) (hB : b < B) : Rd w B (some ⟨b, 33, none⟩) h.root := fun _ =>
  ⟨b, 33, rfl, hB, fun j hj => H.cell (hdV_root k (by rw [k.root] at hj; exact hj))⟩
theorem six_ws {w : World} {B g : Nat} {v0 v1 v2 v3 v4 v5 : Value} {X0 X1 X2 X3 X4 X5 : List (BitVec 8)} (hb : Blk w g 27 [v0, v1, v2, v3, v4, v5]) (hg : g < B) (h0 : Sl w B v0 X0) (h1 : Sl w B v1 X1) (h2 : Sl w B v2 X2) (h3 : Sl w B v3 X3) (h4 : Sl w B v4 X4) (h5 : Sl w B v5 X5) : Ws w B (.slice (some ⟨g, 0, none⟩) 6 6) [X0, X1, X2, X3, X4, X5] := by
  refine ⟨_, 6, rfl, Nat.le_refl _, by omega, fun _ => ⟨g, 0, rfl, hg, fun j hj => ?_⟩⟩
  have : j = 0 ∨ j = 1 ∨ j = 2 ∨ j = 3 ∨ j = 4 ∨ j = 5 := by simp at hj; omega
  rcases this with rfl | rfl | rfl | rfl | rfl | rfl
  · exact ⟨v0, hb.cell rfl, h0⟩
  · exact ⟨v1, hb.cell rfl, h1⟩
  · exact ⟨v2, hb.cell rfl, h2⟩
  · exact ⟨v3, hb.cell rfl, h3⟩
  · exact ⟨v4, hb.cell rfl, h4⟩
  · exact ⟨v5, hb.cell rfl, h5⟩
theorem Sl.of {w : World} {B : Nat} {A : Option Addr} {L : List (BitVec 8)} {n cap : Nat} (hn : L.length = n) (h : Rd w B A L) (h1 : n ≤ cap) (h2 : cap ≤ 9223372036854775807) (h3 : A = none → cap = 0) : Sl w B (.slice A n cap) L := by
  subst hn
  exact ⟨A, cap, rfl, h, h1, h2, h3⟩
theorem OB.on {w w' : World} {B : Nat} {v : Value} {L : List (BitVec 8)} (h : OB w B v L) (hb : Below w.heap.size w w') : OB w' B v L := h.below (B' := 0) hb
theorem Sl.sb {W w : World} {B : Nat} {v : Value} {L : List (BitVec 8)} (h : Sl W W.heap.size v L) (hs : SB W w) (hB : w.heap.size ≤ B) : Sl w B v L := (h.keep hs (Nat.le_refl _)).up (Nat.le_trans hs.size hB)
set_option maxHeartbeats 4000000 in
theorem hput_any (h : THd) (k : HdOk h) (w : World) : Calls Tryd.prog 7 #[.agg (hdV h).toArray] w (LaidPost (hdB h) w) := by
  have K18 := Lib.hid (fun (n : Nat) (hn : n < 4294967296) (wq : World) => number_w n wq hn)
  have HK := Lib.hid k
  have HB : Hid (Below w.heap.size w (w.alloc (.cells (hdV h).toArray 26)).drew) := ((Below.refl w.heap.size w).alloc (Nat.le_refl _) _).drew
  have HH : Hid (HdAt (w.alloc (.cells (hdV h).toArray 26)).drew w.heap.size h) := (⟨(HdAt.new w h 26).1, (HdAt.new w h 26).2⟩ : HdAt (w.alloc (.cells (hdV h).toArray 26)).drew w.heap.size h)
  have HS1 : Hid (∀ (b o : Nat) (w : World), (Instr.sliceAt 24 (.pointer (some ⟨b, o, none⟩)) none none none).run Tryd.prog w = .ok (.slice (some ⟨b, o, none⟩) 32 32) w) := slice55all
  obtain ⟨V, hV⟩ : ∃ V, V = (hdV h).toArray := ⟨_, rfl⟩
  rw [← hV] at HB HH ⊢
  obtain ⟨ver, hver⟩ : ∃ n, n = h.ver := ⟨_, rfl⟩
  obtain ⟨time, htime⟩ : ∃ n, n = h.time := ⟨_, rfl⟩
  obtain ⟨bits, hbits⟩ : ∃ n, n = h.bits := ⟨_, rfl⟩
  obtain ⟨nonce, hnonce⟩ : ∃ n, n = h.nonce := ⟨_, rfl⟩
  have HN := Lib.hid (⟨hver, htime, hbits, hnonce⟩ : ver = h.ver ∧ time = h.time ∧ bits = h.bits ∧ nonce = h.nonce)
  have HL := Lib.hid (⟨hver ▸ k.ver, htime ▸ k.time, hbits ▸ k.bits, hnonce ▸ k.nonce⟩ : ver < 4294967296 ∧ time < 4294967296 ∧ bits < 4294967296 ∧ nonce < 4294967296)
  clear hV k hver htime hbits hnonce
  go_enter Tryd.func7, Tryd.ntmps7
  go_upto_region 1 with fail
  generalize hWd : (w.alloc (.cells V 26)).drew = Wd
  rw [hWd] at HB HH
  have E0 : Hid (∀ wq, SB Wd wq → wq.cell? ⟨w.heap.size, 0, none⟩ = some (.int .u32 (ver : Int)) ∧ wq.cell? ⟨w.heap.size, 65, none⟩ = some (.int .u32 (time : Int)) ∧ wq.cell? ⟨w.heap.size, 66, none⟩ = some (.int .u32 (bits : Int)) ∧ wq.cell? ⟨w.heap.size, 67, none⟩ = some (.int .u32 (nonce : Int))) := fun wq hq => by
    obtain ⟨e1, e2, e3, e4⟩ := HN.out
    rw [e1, e2, e3, e4]
    exact (HH.out.sb hq).four HK.out
  refine wp_region_but (z := 999) (SB Wd) (by kernel_rfl) ?_
  rw [hWd]
  have hS : SB Wd Wd := SB.refl Wd
  clear hWd
  refine AnyBut.takeE (i := 0) (v := ?_) rfl (by kernel_rfl) (by kernel_rfl) (by kernel_rfl) (by kernel_rfl) (fun _ _ _ h => h) (Or.inl ⟨by rfl, ?_⟩) hS ?_
  rotate_left
  · (intro wq hq; go_simp; try with_reducible rfl)
  try simp only [Act.put, List.setIfInBounds_toArray, List.set_cons_zero, List.set_cons_succ, List.getElem_toArray, List.getElem_cons_zero, List.getElem_cons_succ]
  refine AnyBut.takeE (i := 1) (v := .int .u32 (ver : Int)) rfl (by kernel_rfl) (by kernel_rfl) (by kernel_rfl) (by kernel_rfl) (fun _ _ _ h => h) (Or.inl ⟨by rfl, ?_⟩) hS ?_
  · intro wq hq
    obtain ⟨dq0, dq1, dq2, dq3⟩ := E0.out wq hq
    go_simp
  try simp only [Act.put, List.setIfInBounds_toArray, List.set_cons_zero, List.set_cons_succ, List.getElem_toArray, List.getElem_cons_zero, List.getElem_cons_succ]
  refine AnyBut.takeE (i := 3) (v := ?_) rfl (by kernel_rfl) (by kernel_rfl) (by kernel_rfl) (by kernel_rfl) (fun _ _ _ h => h) (Or.inl ⟨by rfl, ?_⟩) hS ?_
  rotate_left
  · (intro wq hq; go_simp; try with_reducible rfl)
  try simp only [Act.put, List.setIfInBounds_toArray, List.set_cons_zero, List.set_cons_succ, List.getElem_toArray, List.getElem_cons_zero, List.getElem_cons_succ]
  refine AnyBut.takeE (i := 4) (v := .slice (some ⟨w.heap.size, 1, none⟩) 32 32) rfl (by kernel_rfl) (by kernel_rfl) (by kernel_rfl) (by kernel_rfl) (fun _ _ _ h => h) (Or.inl ⟨by rfl, ?_⟩) hS ?_
  · intro wq hq
    have hs := HS1.out w.heap.size 1 wq
    go_simp
  try simp only [Act.put, List.setIfInBounds_toArray, List.set_cons_zero, List.set_cons_succ, List.getElem_toArray, List.getElem_cons_zero, List.getElem_cons_succ]
  refine AnyBut.takeE (i := 5) (v := ?_) rfl (by kernel_rfl) (by kernel_rfl) (by kernel_rfl) (by kernel_rfl) (fun _ _ _ h => h) (Or.inl ⟨by rfl, ?_⟩) hS ?_
  rotate_left
  · (intro wq hq; go_simp; try with_reducible rfl)
  try simp only [Act.put, List.setIfInBounds_toArray, List.set_cons_zero, List.set_cons_succ, List.getElem_toArray, List.getElem_cons_zero, List.getElem_cons_succ]
  refine AnyBut.takeE (i := 6) (v := .slice (some ⟨w.heap.size, 33, none⟩) 32 32) rfl (by kernel_rfl) (by kernel_rfl) (by kernel_rfl) (by kernel_rfl) (fun _ _ _ h => h) (Or.inl ⟨by rfl, ?_⟩) hS ?_
  · intro wq hq
    have hs := HS1.out w.heap.size 33 wq
    go_simp
  try simp only [Act.put, List.setIfInBounds_toArray, List.set_cons_zero, List.set_cons_succ, List.getElem_toArray, List.getElem_cons_zero, List.getElem_cons_succ]
  refine AnyBut.takeE (i := 7) (v := ?_) rfl (by kernel_rfl) (by kernel_rfl) (by kernel_rfl) (by kernel_rfl) (fun _ _ _ h => h) (Or.inl ⟨by rfl, ?_⟩) hS ?_
  rotate_left
  · (intro wq hq; go_simp; try with_reducible rfl)
  try simp only [Act.put, List.setIfInBounds_toArray, List.set_cons_zero, List.set_cons_succ, List.getElem_toArray, List.getElem_cons_zero, List.getElem_cons_succ]
  refine AnyBut.takeE (i := 8) (v := .int .u32 (time : Int)) rfl (by kernel_rfl) (by kernel_rfl) (by kernel_rfl) (by kernel_rfl) (fun _ _ _ h => h) (Or.inl ⟨by rfl, ?_⟩) hS ?_
  · intro wq hq
    obtain ⟨dq0, dq1, dq2, dq3⟩ := E0.out wq hq
    go_simp
  try simp only [Act.put, List.setIfInBounds_toArray, List.set_cons_zero, List.set_cons_succ, List.getElem_toArray, List.getElem_cons_zero, List.getElem_cons_succ]
  refine AnyBut.takeE (i := 10) (v := ?_) rfl (by kernel_rfl) (by kernel_rfl) (by kernel_rfl) (by kernel_rfl) (fun _ _ _ h => h) (Or.inl ⟨by rfl, ?_⟩) hS ?_
  rotate_left
  · (intro wq hq; go_simp; try with_reducible rfl)
  try simp only [Act.put, List.setIfInBounds_toArray, List.set_cons_zero, List.set_cons_succ, List.getElem_toArray, List.getElem_cons_zero, List.getElem_cons_succ]
  refine AnyBut.takeE (i := 11) (v := .int .u32 (bits : Int)) rfl (by kernel_rfl) (by kernel_rfl) (by kernel_rfl) (by kernel_rfl) (fun _ _ _ h => h) (Or.inl ⟨by rfl, ?_⟩) hS ?_
  · intro wq hq
    obtain ⟨dq0, dq1, dq2, dq3⟩ := E0.out wq hq
    go_simp
  try simp only [Act.put, List.setIfInBounds_toArray, List.set_cons_zero, List.set_cons_succ, List.getElem_toArray, List.getElem_cons_zero, List.getElem_cons_succ]
  refine AnyBut.takeE (i := 13) (v := ?_) rfl (by kernel_rfl) (by kernel_rfl) (by kernel_rfl) (by kernel_rfl) (fun _ _ _ h => h) (Or.inl ⟨by rfl, ?_⟩) hS ?_
  rotate_left
  · (intro wq hq; go_simp; try with_reducible rfl)
  try simp only [Act.put, List.setIfInBounds_toArray, List.set_cons_zero, List.set_cons_succ, List.getElem_toArray, List.getElem_cons_zero, List.getElem_cons_succ]
  refine AnyBut.takeE (i := 14) (v := .int .u32 (nonce : Int)) rfl (by kernel_rfl) (by kernel_rfl) (by kernel_rfl) (by kernel_rfl) (fun _ _ _ h => h) (Or.inl ⟨by rfl, ?_⟩) hS ?_
  · intro wq hq
    obtain ⟨dq0, dq1, dq2, dq3⟩ := E0.out wq hq
    go_simp
  try simp only [Act.put, List.setIfInBounds_toArray, List.set_cons_zero, List.set_cons_succ, List.getElem_toArray, List.getElem_cons_zero, List.getElem_cons_succ]
  refine AnyBut.gone (i := 2) (by kernel_rfl) rfl (by rfl) (fun K hK => ?_)
  go_simp
  (with_reducible refine (K18.out _ HL.out.1 _).mono ?_)
  rintro e w1 ⟨A1, c1, rfl, ho1, hb1⟩
  have hS1 : SB Wd w1 := SB.next hS hb1
  have HO1 := Lib.hid ho1
  have HB1 := Lib.hid hb1
  clear ho1 hb1 hS
  have hS := hS1
  dsimp only
  refine hK _ _ (fun _ => hS) ?_
  clear hK K
  try simp only [Act.put, List.setIfInBounds_toArray, List.set_cons_zero, List.set_cons_succ, List.getElem_toArray, List.getElem_cons_zero, List.getElem_cons_succ]
  refine AnyBut.gone (i := 9) (by kernel_rfl) rfl (by rfl) (fun K hK => ?_)
  go_simp
  (with_reducible refine (K18.out _ HL.out.2.1 _).mono ?_)
  rintro e w2 ⟨A2, c2, rfl, ho2, hb2⟩
  have hS2 : SB Wd w2 := SB.next hS hb2
  have HO2 := Lib.hid ho2
  have HB2 := Lib.hid hb2
  clear ho2 hb2 hS
  have hS := hS2
  dsimp only
  refine hK _ _ (fun _ => hS) ?_
  clear hK K
  try simp only [Act.put, List.setIfInBounds_toArray, List.set_cons_zero, List.set_cons_succ, List.getElem_toArray, List.getElem_cons_zero, List.getElem_cons_succ]
  refine AnyBut.gone (i := 12) (by kernel_rfl) rfl (by rfl) (fun K hK => ?_)
  go_simp
  (with_reducible refine (K18.out _ HL.out.2.2.1 _).mono ?_)
  rintro e w3 ⟨A3, c3, rfl, ho3, hb3⟩
  have hS3 : SB Wd w3 := SB.next hS hb3
  have HO3 := Lib.hid ho3
  have HB3 := Lib.hid hb3
  clear ho3 hb3 hS
  have hS := hS3
  dsimp only
  refine hK _ _ (fun _ => hS) ?_
  clear hK K
  try simp only [Act.put, List.setIfInBounds_toArray, List.set_cons_zero, List.set_cons_succ, List.getElem_toArray, List.getElem_cons_zero, List.getElem_cons_succ]
  refine AnyBut.gone (i := 15) (by kernel_rfl) rfl (by rfl) (fun K hK => ?_)
  go_simp
  (with_reducible refine (K18.out _ HL.out.2.2.2 _).mono ?_)
  rintro e w4 ⟨A4, c4, rfl, ho4, hb4⟩
  have hS4 : SB Wd w4 := SB.next hS hb4
  have HO4 := Lib.hid ho4
  have HB4 := Lib.hid hb4
  clear ho4 hb4 hS
  have hS := hS4
  dsimp only
  refine hK _ _ (fun _ => hS) ?_
  clear hK K
  try simp only [Act.put, List.setIfInBounds_toArray, List.set_cons_zero, List.set_cons_succ, List.getElem_toArray, List.getElem_cons_zero, List.getElem_cons_succ]
  have hb5 := (Below.refl w4.heap.size w4).alloc (Nat.le_refl _) (.cells #[.slice A1 4 c1, .slice (some ⟨w.heap.size, 1, none⟩) 32 32, .slice (some ⟨w.heap.size, 33, none⟩) 32 32, .slice A2 4 c2, .slice A3 4 c3, .slice A4 4 c4] 27)
  have hS5 := hS.next hb5
  have hblk := Blk.new w4 27 #[.slice A1 4 c1, .slice (some ⟨w.heap.size, 1, none⟩) 32 32, .slice (some ⟨w.heap.size, 33, none⟩) 32 32, .slice A2 4 c2, .slice A3 4 c3, .slice A4 4 c4]
  have hlt5 : w4.heap.size < (w4.alloc (.cells #[.slice A1 4 c1, .slice (some ⟨w.heap.size, 1, none⟩) 32 32, .slice (some ⟨w.heap.size, 33, none⟩) 32 32, .slice A2 4 c2, .slice A3 4 c3, .slice A4 4 c4] 27)).heap.size := by simp
  refine AnyBut.gone (i := 16) (by kernel_rfl) rfl (by rfl) (fun K hK => ?_)
  go_simp
  refine hK _ _ (fun _ => hS5) ?_
  clear hK K
  try simp only [Act.put, List.setIfInBounds_toArray, List.set_cons_zero, List.set_cons_succ, List.getElem_toArray, List.getElem_cons_zero, List.getElem_cons_succ]
  generalize w4.alloc (.cells #[.slice A1 4 c1, .slice (some ⟨w.heap.size, 1, none⟩) 32 32, .slice (some ⟨w.heap.size, 33, none⟩) 32 32, .slice A2 4 c2, .slice A3 4 c3, .slice A4 4 c4] 27) = w5 at hb5 hS5 hblk hlt5 ⊢
  have hH5 := HH.out.sb hS5
  have s0 : Sl w5 w5.heap.size (.slice A1 4 c1) (les ver 4) := ((((HO1.out.on HB2.out).on HB3.out).on HB4.out).on hb5).sl (Nat.le_refl _)
  have s3 : Sl w5 w5.heap.size (.slice A2 4 c2) (les time 4) := (((HO2.out.on HB3.out).on HB4.out).on hb5).sl (Nat.le_refl _)
  have s4 : Sl w5 w5.heap.size (.slice A3 4 c3) (les bits 4) := ((HO3.out.on HB4.out).on hb5).sl (Nat.le_refl _)
  have s5 : Sl w5 w5.heap.size (.slice A4 4 c4) (les nonce 4) := (HO4.out.on hb5).sl (Nat.le_refl _)
  have s1 : Sl w5 w5.heap.size (.slice (some ⟨w.heap.size, 1, none⟩) 32 32) h.prev := Sl.of HK.out.prev (hH5.prev HK.out _ hH5.2) (Nat.le_refl _) (by omega) (fun h => by cases h)
  have s2 : Sl w5 w5.heap.size (.slice (some ⟨w.heap.size, 33, none⟩) 32 32) h.root := Sl.of HK.out.root (hH5.root HK.out _ hH5.2) (Nat.le_refl _) (by omega) (fun h => by cases h)
  have KC := Lib.hid (concat_any [les ver 4, h.prev, h.root, les time 4, les bits 4, les nonce 4] _ w5 (six_ws hblk hlt5 s0 s1 s2 s3 s4 s5) (by simp) (by intro L hL; simp at hL; have := HK.out.prev; have := HK.out.root; rcases hL with rfl | rfl | rfl | rfl | rfl | rfl <;> simp [les_len, *]))
  have HSS := Lib.hid hS5
  have hS := hS5
  clear s0 s1 s2 s3 s4 s5 hH5 hblk hb5 hlt5
  refine AnyBut.gone (i := 17) (by kernel_rfl) rfl (by rfl) (fun K hK => ?_)
  go_simp
  (with_reducible refine KC.out.mono ?_)
  rintro e w6 ⟨v6, rfl, ho6, hb6⟩
  have hS6 : SB Wd w6 := SB.next hS hb6
  dsimp only
  refine hK _ _ (fun _ => hS6) ?_
  clear hK K
  try simp only [Act.put, List.setIfInBounds_toArray, List.set_cons_zero, List.set_cons_succ, List.getElem_toArray, List.getElem_cons_zero, List.getElem_cons_succ]
  refine AnyBut.gone (i := 18) (by kernel_rfl) rfl (by rfl) (fun K hK => ?_)
  go_simp
  refine hK _ _ (fun _ => hS6) ?_
  clear hK K
  refine AnyBut.done (by kernel_rfl) ?_ _
  dsimp only [Exit.then]
  have H6 := Lib.hid hS6
  have HO6 := Lib.hid ho6
  clear hS hS6 hS5 ho6 hb6
  go_wp2_with fail
  go_ret
  obtain ⟨e1, e2, e3, e4⟩ := HN.out
  have e : hdB h = [les ver 4, h.prev, h.root, les time 4, les bits 4, les nonce 4].flatten := by rw [e1, e2, e3, e4]; rfl
  exact ⟨v6, rfl, by rw [e]; exact HO6.out.base (Nat.le_trans HB.out.size HSS.out.size), HB.out.trans (Below.mono H6.out HB.out.size)⟩
end Go.Proofs.YtefiacnpbkancaaDoor
