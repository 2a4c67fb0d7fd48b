/- What tx.put and tx.Put return: the bytes of a transaction behind others, or why there are none. -/
import Derived.Test.YtnkkhmgplpkjbaaDoorLm
import Derived.Outline
namespace Go.Proofs.YtnkkhmgplpkjbaaDoor
open Go.RowKit
set_option linter.unusedVariables false
set_option linter.unusedSimpArgs false
set_option maxRecDepth 100000
/-- A new slice with the bytes X, and nought, are told. -/
def GavePost (X : List (BitVec 8)) (w : World) (e : Ending) (w' : World) : Prop :=
  ∃ A c, e = .returned (.tuple #[.slice A X.length c, .int .i64 0]) ∧ OB w' w.heap.size (.slice A X.length c) X ∧ Below w.heap.size w w'
/-- No bytes are told, and why. -/
def NonePost (c : Int) (w : World) (e : Ending) (w' : World) : Prop :=
  e = .returned (.tuple #[.slice none 0 0, .int .i64 c]) ∧ Below w.heap.size w w'
theorem lay_len {t : TTx} {i o : Value} {w : World} (full : Bool) (h : TxOk w w.heap.size t i o) (hc : chk t = 0) : (layB t full).length ≤ 100000 := by
  obtain ⟨z1, z2, z3, z4, z5, _, _⟩ := chk_zero hc
  have h1 : (t.ins.map inB).flatten.length ≤ 3200 := by
    obtain ⟨_, _, b, o, _, _, hj⟩ := Row.open h.1
    have := flat_le inB 200 t.ins fun x hx => by
      obtain ⟨k, hk, rfl⟩ := List.getElem_of_mem hx
      obtain ⟨_, s, u, _, _, _, h32, _, _⟩ := hj k hk
      have e : t.ins.getD k In0 = t.ins[k] := by simp [List.getD, hk]
      rw [e] at h32
      exact inB_le (z3 _ hx) h32
    omega
  have h2 := flat_le outB 200 t.outs fun x hx => outB_le (z5 x hx)
  have h3 : (witsB t.ins).length ≤ 32000 := by
    have := flat_le witB 2000 t.ins (witB_le z4)
    unfold witsB
    omega
  have h4 := form_len9 t.ins.length
  have h5 := form_len9 t.outs.length
  unfold layB
  generalize (t.ins.map inB).flatten = XB at h1 ⊢
  generalize (t.outs.map outB).flatten = YB at h2 ⊢
  generalize witsB t.ins = WB at h3 ⊢
  cases full
  · rw [if_neg (by decide), if_neg (by decide)]
    simp only [List.length_append, les_len, List.length_nil]
    omega
  · rw [if_pos rfl, if_pos rfl]
    simp only [List.length_append, les_len, List.length_cons, List.length_nil]
    omega
theorem two_ws {w : World} {B g : Nat} {v1 v2 : Value} {X Y : List (BitVec 8)} (hb : Blk w g 27 [v1, v2]) (hg : g < B) (h1 : Sl w B v1 X) (h2 : Sl w B v2 Y) : Ws w B (.slice (some ⟨g, 0, none⟩) 2 2) [X, Y] := by
  refine ⟨_, 2, rfl, Nat.le_refl _, by omega, fun _ => ⟨g, 0, rfl, hg, fun j hj => ?_⟩⟩
  have : j = 0 ∨ j = 1 := by simp at hj; omega
  rcases this with rfl | rfl
  · exact ⟨v1, hb.cell rfl, h1⟩
  · exact ⟨v2, hb.cell rfl, h2⟩
theorem OB.sl {w : World} {B B' : Nat} {v : Value} {L : List (BitVec 8)} (h : OB w B v L) (hB : w.heap.size ≤ B') : Sl w B' v L := by
  obtain ⟨A, c, e, hr, h1, h2, h3⟩ := h.rd
  exact ⟨A, c, e, hr.up hB, h1, h2, h3⟩
set_option maxHeartbeats 4000000 in
theorem put_ok (t : TTx) (i o b : Value) (L : List (BitVec 8)) (full : Bool) (w : World) (h : TxOk w w.heap.size t i o) (hL : Sl w w.heap.size b L) (hl : L.length ≤ 100000) (hc : chk t = 0) :
    Calls Tryd.prog 28 #[b, txV t i o, .bool full] w (GavePost (L ++ layB t full) w) := by
  have h' := h
  have hlen := lay_len full h hc
  obtain ⟨⟨A1, c1, rfl, _, _, _⟩, ⟨A2, c2, rfl, _, _, _⟩, _, _⟩ := h
  obtain ⟨n1, hn1⟩ : ∃ n, n = t.ins.length := ⟨_, rfl⟩
  obtain ⟨n2, hn2⟩ : ∃ n, n = t.outs.length := ⟨_, rfl⟩
  obtain ⟨ver, hv⟩ : ∃ n, n = t.ver := ⟨_, rfl⟩
  obtain ⟨lock, hlk⟩ : ∃ n, n = t.lock := ⟨_, rfl⟩
  have K47 : Hid (∀ wq, Below w.heap.size w wq → Calls Tryd.prog 12 #[.agg #[.int .u32 (ver : Int), .slice A1 n1 c1, .slice A2 n2 c2, .int .u32 (lock : Int)]] wq (IntPost 0 wq)) := fun wq hq => by
    have := check_any t _ _ wq ((h'.keep hq (Nat.le_refl _)).up hq.size)
    rw [hc] at this
    unfold txV at this
    rw [← hv, ← hlk, ← hn1, ← hn2] at this
    exact this
  obtain ⟨X, hX⟩ : ∃ X, X = layB t full := ⟨_, rfl⟩
  have K49 : Hid (∀ wq, Below w.heap.size w wq → Calls Tryd.prog 48 #[.agg #[.int .u32 (ver : Int), .slice A1 n1 c1, .slice A2 n2 c2, .int .u32 (lock : Int)], .bool full] wq (LaidPost X wq)) := fun wq hq => by
    have := written_any t _ _ full wq ((h'.keep hq (Nat.le_refl _)).up hq.size) hc
    unfold txV at this
    rw [← hv, ← hlk, ← hn1, ← hn2, ← hX] at this
    exact this
  have HB : Hid (Below w.heap.size w (w.alloc (.cells #[.int .u32 (ver : Int), .slice A1 n1 c1, .slice A2 n2 c2, .int .u32 (lock : Int)] 26))) := (Below.refl _ _).alloc (Nat.le_refl _) _
  have HLs := Lib.hid hL
  obtain ⟨Ab, cb, rfl, _⟩ := hL
  obtain ⟨lb, hlb⟩ : ∃ l, l = L.length := ⟨_, rfl⟩
  rw [← hlb] at HLs ⊢
  have Hlb := Lib.hid hlb
  rw [← hX] at hlen
  unfold txV
  rw [← hv, ← hlk, ← hn1, ← hn2, ← hX]
  clear h' hc hn1 hn2 hv hlk hX hlb
  go_enter Tryd.func28, Tryd.ntmps28
  go_wp2_with (first
    | (go_at_call 12; (with_reducible refine (K47.out _ HB.out).mono ?_); rintro e w2 ⟨rfl, hb2⟩; have HB2 : Hid (Below w.heap.size w w2) := HB.out.trans (hb2.mono HB.out.size); have d0 : w2.cell? ⟨w.heap.size, 0, none⟩ = some (.int .u32 (ver : Int)) := (by rw [hb2.cell (p := ⟨w.heap.size, 0, none⟩) (by simp)]; exact cell_new rfl rfl); have d1 : w2.cell? ⟨w.heap.size, 1, none⟩ = some (.slice A1 n1 c1) := (by rw [hb2.cell (p := ⟨w.heap.size, 1, none⟩) (by simp)]; exact cell_new rfl rfl); have d2 : w2.cell? ⟨w.heap.size, 2, none⟩ = some (.slice A2 n2 c2) := (by rw [hb2.cell (p := ⟨w.heap.size, 2, none⟩) (by simp)]; exact cell_new rfl rfl); have d3 : w2.cell? ⟨w.heap.size, 3, none⟩ = some (.int .u32 (lock : Int)) := (by rw [hb2.cell (p := ⟨w.heap.size, 3, none⟩) (by simp)]; exact cell_new rfl rfl); clear hb2; dsimp only)
    | (go_at_call 48; (with_reducible refine (K49.out _ HB2.out).mono ?_); rintro e w3 ⟨v3, rfl, ho3, hb3⟩; obtain ⟨A3, c3, rfl, _, _⟩ := slice_form ho3; have HB3 : Hid (Below w.heap.size w w3) := HB2.out.trans (hb3.mono HB2.out.size); have HO3 := Lib.hid ho3; clear hb3 ho3; dsimp only)
    | (go_at_call 47; (with_reducible refine (concat_any [L, X] _ _ (two_ws (Blk.new w3 27 #[.slice Ab lb cb, .slice A3 X.length c3]) (by simp) ((HLs.out.keep (HB3.out.alloc HB3.out.size _) (Nat.le_refl _)).up (Nat.le_trans HB3.out.size (by simp))) ((HO3.out.alloc _).sl (Nat.le_refl _))) (by simp) (by intro M hM; simp at hM; rcases hM with rfl | rfl <;> omega)).mono ?_); rintro e w4 ⟨v4, rfl, ho4, hb4⟩; obtain ⟨A4, c4, rfl, _, _⟩ := slice_form ho4; have HO4 := Lib.hid ho4; have HB4 : Hid (Below w.heap.size w w4) := (HB3.out.alloc HB3.out.size _).trans (hb4.mono (Nat.le_trans HB3.out.size (by simp))); clear ho4 hb4; dsimp only))
  go_ret2
  have e : ([L, X] : List (List (BitVec 8))).flatten = L ++ X := by simp
  have hO := HO4.out
  have hBs := HB3.out.size
  rw [e] at hO
  exact ⟨A4, c4, by rw [List.length_append]; rfl, hO.base (by simp; omega), HB4.out⟩
set_option maxHeartbeats 4000000 in
theorem put_no (t : TTx) (i o b : Value) (full : Bool) (w : World) (h : TxOk w w.heap.size t i o) (hc : chk t ≠ 0) :
    Calls Tryd.prog 28 #[b, txV t i o, .bool full] w (NonePost (chk t) w) := by
  have h' := h
  obtain ⟨⟨A1, c1, rfl, _, _, _⟩, ⟨A2, c2, rfl, _, _, _⟩, _, _⟩ := h
  obtain ⟨n1, hn1⟩ : ∃ n, n = t.ins.length := ⟨_, rfl⟩
  obtain ⟨n2, hn2⟩ : ∃ n, n = t.outs.length := ⟨_, rfl⟩
  obtain ⟨ver, hv⟩ : ∃ n, n = t.ver := ⟨_, rfl⟩
  obtain ⟨lock, hlk⟩ : ∃ n, n = t.lock := ⟨_, rfl⟩
  obtain ⟨c, hcc⟩ : ∃ c, c = chk t := ⟨_, rfl⟩
  have K47 : Hid (∀ wq, Below w.heap.size w wq → Calls Tryd.prog 12 #[.agg #[.int .u32 (ver : Int), .slice A1 n1 c1, .slice A2 n2 c2, .int .u32 (lock : Int)]] wq (IntPost c wq)) := fun wq hq => by
    have := check_any t _ _ wq ((h'.keep hq (Nat.le_refl _)).up hq.size)
    rw [← hcc] at this
    unfold txV at this
    rw [← hv, ← hlk, ← hn1, ← hn2] at this
    exact this
  have HB : Hid (Below w.heap.size w (w.alloc (.cells #[.int .u32 (ver : Int), .slice A1 n1 c1, .slice A2 n2 c2, .int .u32 (lock : Int)] 26))) := (Below.refl _ _).alloc (Nat.le_refl _) _
  have hne : (c != 0) = true := by rw [hcc]; simpa using hc
  unfold txV
  rw [← hv, ← hlk, ← hn1, ← hn2, ← hcc]
  clear h' hc hn1 hn2 hv hlk hcc
  go_enter Tryd.func28, Tryd.ntmps28
  go_wp2_with (go_at_call 12; (with_reducible refine (K47.out _ HB.out).mono ?_); rintro e w2 ⟨rfl, hb2⟩; dsimp only)
  go_ret2
  exact ⟨rfl, HB.out.trans (hb2.mono HB.out.size)⟩
set_option maxHeartbeats 4000000 in
theorem Put_ok (t : TTx) (i o b : Value) (L : List (BitVec 8)) (w : World) (h : TxOk w w.heap.size t i o) (hL : Sl w w.heap.size b L) (hl : L.length ≤ 100000) (hc : chk t = 0) :
    Calls Tryd.prog 8 #[b, txV t i o] w (GavePost (L ++ layB t (witd t)) w) := by
  have h' := h
  obtain ⟨⟨A1, c1, rfl, _, _, _⟩, ⟨A2, c2, rfl, _, _, _⟩, _, _⟩ := h
  obtain ⟨n1, hn1⟩ : ∃ n, n = t.ins.length := ⟨_, rfl⟩
  obtain ⟨n2, hn2⟩ : ∃ n, n = t.outs.length := ⟨_, rfl⟩
  obtain ⟨ver, hv⟩ : ∃ n, n = t.ver := ⟨_, rfl⟩
  obtain ⟨lock, hlk⟩ : ∃ n, n = t.lock := ⟨_, rfl⟩
  obtain ⟨f, hf⟩ : ∃ f, f = witd t := ⟨_, rfl⟩
  have K35 : Hid (∀ wq, Below w.heap.size w wq → Calls Tryd.prog 14 #[.agg #[.int .u32 (ver : Int), .slice A1 n1 c1, .slice A2 n2 c2, .int .u32 (lock : Int)]] wq (BoolPost f wq)) := fun wq hq => by
    have := witnessed_any t _ _ wq ((h'.keep hq (Nat.le_refl _)).up hq.size)
    unfold txV at this
    rw [← hv, ← hlk, ← hn1, ← hn2, ← hf] at this
    exact this
  obtain ⟨X, hX⟩ : ∃ X, X = L ++ layB t (witd t) := ⟨_, rfl⟩
  have K34 : Hid (∀ wq, Below w.heap.size w wq → Calls Tryd.prog 28 #[b, .agg #[.int .u32 (ver : Int), .slice A1 n1 c1, .slice A2 n2 c2, .int .u32 (lock : Int)], .bool f] wq (GavePost X wq)) := fun wq hq => by
    have := put_ok t _ _ b L (witd t) wq ((h'.keep hq (Nat.le_refl _)).up hq.size) ((hL.keep hq (Nat.le_refl _)).up hq.size) hl hc
    unfold txV at this
    rw [← hv, ← hlk, ← hn1, ← hn2, ← hX, ← hf] at this
    exact this
  have HB : Hid (Below w.heap.size w (w.alloc (.cells #[.int .u32 (ver : Int), .slice A1 n1 c1, .slice A2 n2 c2, .int .u32 (lock : Int)] 26)).drew) := ((Below.refl w.heap.size w).alloc (Nat.le_refl _) _).drew
  have E0 : Hid (∀ wq, SB (w.alloc (.cells #[.int .u32 (ver : Int), .slice A1 n1 c1, .slice A2 n2 c2, .int .u32 (lock : Int)] 26)).drew wq → wq.cell? ⟨w.heap.size, 0, none⟩ = some (.int .u32 (ver : Int)) ∧ wq.cell? ⟨w.heap.size, 1, none⟩ = some (.slice A1 n1 c1) ∧ wq.cell? ⟨w.heap.size, 2, none⟩ = some (.slice A2 n2 c2) ∧ wq.cell? ⟨w.heap.size, 3, none⟩ = some (.int .u32 (lock : Int))) := fun wq hq =>
    ⟨hq.cell (cell_new (w := w) rfl rfl), hq.cell (cell_new (w := w) rfl rfl), hq.cell (cell_new (w := w) rfl rfl), hq.cell (cell_new (w := w) rfl rfl)⟩
  unfold txV
  rw [← hv, ← hlk, ← hn1, ← hn2, ← hX]
  clear h' hn1 hn2 hv hlk hf hX hc hL
  go_enter Tryd.func8, Tryd.ntmps8
  go_upto_region 1 with fail
  generalize hWd : (w.alloc (.cells #[.int .u32 (ver : Int), .slice A1 n1 c1, .slice A2 n2 c2, .int .u32 (lock : Int)] 26)).drew = Wd
  rw [hWd] at HB E0
  refine wp_region_but (z := 999) (SB Wd) (by kernel_rfl) ?_
  rw [hWd]
  have hS : SB Wd Wd := SB.refl Wd
  clear hWd
  refine AnyBut.takeE (i := 0) (v := ?_) rfl (by kernel_rfl) (by kernel_rfl) (by kernel_rfl) (by kernel_rfl) (fun _ _ _ h => h) (Or.inl ⟨by rfl, ?_⟩) hS ?_
  rotate_left
  · (intro wq hq; go_simp; try with_reducible rfl)
  try simp only [Act.put, List.setIfInBounds_toArray, List.set_cons_zero, List.set_cons_succ, List.getElem_toArray, List.getElem_cons_zero, List.getElem_cons_succ]
  refine AnyBut.takeE (i := 1) (v := .agg #[.int .u32 (ver : Int), .slice A1 n1 c1, .slice A2 n2 c2, .int .u32 (lock : Int)]) rfl (by kernel_rfl) (by kernel_rfl) (by kernel_rfl) (by kernel_rfl) (fun _ _ _ h => h) (Or.inl ⟨by rfl, ?_⟩) hS ?_
  · intro wq hq
    obtain ⟨dq0, dq1, dq2, dq3⟩ := E0.out wq hq
    go_simp
  try simp only [Act.put, List.setIfInBounds_toArray, List.set_cons_zero, List.set_cons_succ, List.getElem_toArray, List.getElem_cons_zero, List.getElem_cons_succ]
  refine AnyBut.takeE (i := 2) (v := .agg #[.int .u32 (ver : Int), .slice A1 n1 c1, .slice A2 n2 c2, .int .u32 (lock : Int)]) rfl (by kernel_rfl) (by kernel_rfl) (by kernel_rfl) (by kernel_rfl) (fun _ _ _ h => h) (Or.inl ⟨by rfl, ?_⟩) hS ?_
  · intro wq hq
    obtain ⟨dq0, dq1, dq2, dq3⟩ := E0.out wq hq
    go_simp
  try simp only [Act.put, List.setIfInBounds_toArray, List.set_cons_zero, List.set_cons_succ, List.getElem_toArray, List.getElem_cons_zero, List.getElem_cons_succ]
  refine AnyBut.gone (i := 3) (by kernel_rfl) rfl (by rfl) (fun K hK => ?_)
  go_simp
  (with_reducible refine (K35.out _ HB.out).mono ?_)
  rintro e w3 ⟨rfl, hb3⟩
  have hS : SB Wd w3 := SB.next hS hb3
  have HB3 : Hid (Below w.heap.size w w3) := HB.out.trans (hb3.mono HB.out.size)
  clear hb3
  dsimp only
  refine hK _ _ (fun _ => hS) ?_
  clear hK K
  try simp only [Act.put, List.setIfInBounds_toArray, List.set_cons_zero, List.set_cons_succ, List.getElem_toArray, List.getElem_cons_zero, List.getElem_cons_succ]
  refine AnyBut.gone (i := 4) (by kernel_rfl) rfl (by rfl) (fun K hK => ?_)
  go_simp
  (with_reducible refine (K34.out _ HB3.out).mono ?_)
  rintro e w4 ⟨A4, c4, rfl, ho4, hb4⟩
  have hS : SB Wd w4 := SB.next hS hb4
  have HB4 : Hid (Below w.heap.size w w4) := HB3.out.trans (hb4.mono HB3.out.size)
  have HO4 := Lib.hid ho4
  clear ho4 hb4
  dsimp only
  refine hK _ _ (fun _ => hS) ?_
  clear hK K
  try simp only [Act.put, List.setIfInBounds_toArray, List.set_cons_zero, List.set_cons_succ, List.getElem_toArray, List.getElem_cons_zero, List.getElem_cons_succ]
  refine AnyBut.takeE (i := 5) (v := ?_) rfl (by kernel_rfl) (by kernel_rfl) (by kernel_rfl) (by kernel_rfl) (fun _ _ _ h => h) (Or.inl ⟨by rfl, ?_⟩) hS ?_
  rotate_left
  · (intro wq hq; go_simp; try with_reducible rfl)
  try simp only [Act.put, List.setIfInBounds_toArray, List.set_cons_zero, List.set_cons_succ, List.getElem_toArray, List.getElem_cons_zero, List.getElem_cons_succ]
  refine AnyBut.takeE (i := 6) (v := ?_) rfl (by kernel_rfl) (by kernel_rfl) (by kernel_rfl) (by kernel_rfl) (fun _ _ _ h => h) (Or.inl ⟨by rfl, ?_⟩) hS ?_
  rotate_left
  · (intro wq hq; go_simp; try with_reducible rfl)
  try simp only [Act.put, List.setIfInBounds_toArray, List.set_cons_zero, List.set_cons_succ, List.getElem_toArray, List.getElem_cons_zero, List.getElem_cons_succ]
  refine AnyBut.takeE (i := 7) (v := ?_) rfl (by kernel_rfl) (by kernel_rfl) (by kernel_rfl) (by kernel_rfl) (fun _ _ _ h => h) (Or.inl ⟨by rfl, ?_⟩) hS ?_
  rotate_left
  · (intro wq hq; go_simp; try with_reducible rfl)
  try simp only [Act.put, List.setIfInBounds_toArray, List.set_cons_zero, List.set_cons_succ, List.getElem_toArray, List.getElem_cons_zero, List.getElem_cons_succ]
  refine AnyBut.gone (i := 8) (by kernel_rfl) rfl (by rfl) (fun K hK => ?_)
  go_simp
  refine hK _ _ (fun _ => hS) ?_
  clear hK K
  refine AnyBut.done (by kernel_rfl) ?_ _
  dsimp only [Exit.then]
  have hBs := HB3.out.size
  clear hS
  go_wp2_with fail
  go_ret2
  exact ⟨A4, c4, rfl, HO4.out.base hBs, HB4.out⟩
set_option maxHeartbeats 4000000 in
theorem Put_no (t : TTx) (i o b : Value)  (w : World) (h : TxOk w w.heap.size t i o) (hc : chk t ≠ 0) :
    Calls Tryd.prog 8 #[b, txV t i o] w (NonePost (chk t) w) := by
  have h' := h
  obtain ⟨⟨A1, c1, rfl, _, _, _⟩, ⟨A2, c2, rfl, _, _, _⟩, _, _⟩ := h
  obtain ⟨n1, hn1⟩ : ∃ n, n = t.ins.length := ⟨_, rfl⟩
  obtain ⟨n2, hn2⟩ : ∃ n, n = t.outs.length := ⟨_, rfl⟩
  obtain ⟨ver, hv⟩ : ∃ n, n = t.ver := ⟨_, rfl⟩
  obtain ⟨lock, hlk⟩ : ∃ n, n = t.lock := ⟨_, rfl⟩
  obtain ⟨f, hf⟩ : ∃ f, f = witd t := ⟨_, rfl⟩
  have K35 : Hid (∀ wq, Below w.heap.size w wq → Calls Tryd.prog 14 #[.agg #[.int .u32 (ver : Int), .slice A1 n1 c1, .slice A2 n2 c2, .int .u32 (lock : Int)]] wq (BoolPost f wq)) := fun wq hq => by
    have := witnessed_any t _ _ wq ((h'.keep hq (Nat.le_refl _)).up hq.size)
    unfold txV at this
    rw [← hv, ← hlk, ← hn1, ← hn2, ← hf] at this
    exact this
  obtain ⟨c, hcc⟩ : ∃ c, c = chk t := ⟨_, rfl⟩
  have K34 : Hid (∀ wq, Below w.heap.size w wq → Calls Tryd.prog 28 #[b, .agg #[.int .u32 (ver : Int), .slice A1 n1 c1, .slice A2 n2 c2, .int .u32 (lock : Int)], .bool f] wq (NonePost c wq)) := fun wq hq => by
    have := put_no t _ _ b (witd t) wq ((h'.keep hq (Nat.le_refl _)).up hq.size) hc
    unfold txV at this
    rw [← hv, ← hlk, ← hn1, ← hn2, ← hcc, ← hf] at this
    exact this
  have HB : Hid (Below w.heap.size w (w.alloc (.cells #[.int .u32 (ver : Int), .slice A1 n1 c1, .slice A2 n2 c2, .int .u32 (lock : Int)] 26)).drew) := ((Below.refl w.heap.size w).alloc (Nat.le_refl _) _).drew
  have E0 : Hid (∀ wq, SB (w.alloc (.cells #[.int .u32 (ver : Int), .slice A1 n1 c1, .slice A2 n2 c2, .int .u32 (lock : Int)] 26)).drew wq → wq.cell? ⟨w.heap.size, 0, none⟩ = some (.int .u32 (ver : Int)) ∧ wq.cell? ⟨w.heap.size, 1, none⟩ = some (.slice A1 n1 c1) ∧ wq.cell? ⟨w.heap.size, 2, none⟩ = some (.slice A2 n2 c2) ∧ wq.cell? ⟨w.heap.size, 3, none⟩ = some (.int .u32 (lock : Int))) := fun wq hq =>
    ⟨hq.cell (cell_new (w := w) rfl rfl), hq.cell (cell_new (w := w) rfl rfl), hq.cell (cell_new (w := w) rfl rfl), hq.cell (cell_new (w := w) rfl rfl)⟩
  unfold txV
  rw [← hv, ← hlk, ← hn1, ← hn2, ← hcc]
  clear h' hn1 hn2 hv hlk hf hcc hc
  go_enter Tryd.func8, Tryd.ntmps8
  go_upto_region 1 with fail
  generalize hWd : (w.alloc (.cells #[.int .u32 (ver : Int), .slice A1 n1 c1, .slice A2 n2 c2, .int .u32 (lock : Int)] 26)).drew = Wd
  rw [hWd] at HB E0
  refine wp_region_but (z := 999) (SB Wd) (by kernel_rfl) ?_
  rw [hWd]
  have hS : SB Wd Wd := SB.refl Wd
  clear hWd
  refine AnyBut.takeE (i := 0) (v := ?_) rfl (by kernel_rfl) (by kernel_rfl) (by kernel_rfl) (by kernel_rfl) (fun _ _ _ h => h) (Or.inl ⟨by rfl, ?_⟩) hS ?_
  rotate_left
  · (intro wq hq; go_simp; try with_reducible rfl)
  try simp only [Act.put, List.setIfInBounds_toArray, List.set_cons_zero, List.set_cons_succ, List.getElem_toArray, List.getElem_cons_zero, List.getElem_cons_succ]
  refine AnyBut.takeE (i := 1) (v := .agg #[.int .u32 (ver : Int), .slice A1 n1 c1, .slice A2 n2 c2, .int .u32 (lock : Int)]) rfl (by kernel_rfl) (by kernel_rfl) (by kernel_rfl) (by kernel_rfl) (fun _ _ _ h => h) (Or.inl ⟨by rfl, ?_⟩) hS ?_
  · intro wq hq
    obtain ⟨dq0, dq1, dq2, dq3⟩ := E0.out wq hq
    go_simp
  try simp only [Act.put, List.setIfInBounds_toArray, List.set_cons_zero, List.set_cons_succ, List.getElem_toArray, List.getElem_cons_zero, List.getElem_cons_succ]
  refine AnyBut.takeE (i := 2) (v := .agg #[.int .u32 (ver : Int), .slice A1 n1 c1, .slice A2 n2 c2, .int .u32 (lock : Int)]) rfl (by kernel_rfl) (by kernel_rfl) (by kernel_rfl) (by kernel_rfl) (fun _ _ _ h => h) (Or.inl ⟨by rfl, ?_⟩) hS ?_
  · intro wq hq
    obtain ⟨dq0, dq1, dq2, dq3⟩ := E0.out wq hq
    go_simp
  try simp only [Act.put, List.setIfInBounds_toArray, List.set_cons_zero, List.set_cons_succ, List.getElem_toArray, List.getElem_cons_zero, List.getElem_cons_succ]
  refine AnyBut.gone (i := 3) (by kernel_rfl) rfl (by rfl) (fun K hK => ?_)
  go_simp
  (with_reducible refine (K35.out _ HB.out).mono ?_)
  rintro e w3 ⟨rfl, hb3⟩
  have hS : SB Wd w3 := SB.next hS hb3
  have HB3 : Hid (Below w.heap.size w w3) := HB.out.trans (hb3.mono HB.out.size)
  clear hb3
  dsimp only
  refine hK _ _ (fun _ => hS) ?_
  clear hK K
  try simp only [Act.put, List.setIfInBounds_toArray, List.set_cons_zero, List.set_cons_succ, List.getElem_toArray, List.getElem_cons_zero, List.getElem_cons_succ]
  refine AnyBut.gone (i := 4) (by kernel_rfl) rfl (by rfl) (fun K hK => ?_)
  go_simp
  (with_reducible refine (K34.out _ HB3.out).mono ?_)
  rintro e w4 ⟨rfl, hb4⟩
  have hS : SB Wd w4 := SB.next hS hb4
  have HB4 : Hid (Below w.heap.size w w4) := HB3.out.trans (hb4.mono HB3.out.size)
  clear hb4
  dsimp only
  refine hK _ _ (fun _ => hS) ?_
  clear hK K
  try simp only [Act.put, List.setIfInBounds_toArray, List.set_cons_zero, List.set_cons_succ, List.getElem_toArray, List.getElem_cons_zero, List.getElem_cons_succ]
  refine AnyBut.takeE (i := 5) (v := ?_) rfl (by kernel_rfl) (by kernel_rfl) (by kernel_rfl) (by kernel_rfl) (fun _ _ _ h => h) (Or.inl ⟨by rfl, ?_⟩) hS ?_
  rotate_left
  · (intro wq hq; go_simp; try with_reducible rfl)
  try simp only [Act.put, List.setIfInBounds_toArray, List.set_cons_zero, List.set_cons_succ, List.getElem_toArray, List.getElem_cons_zero, List.getElem_cons_succ]
  refine AnyBut.takeE (i := 6) (v := ?_) rfl (by kernel_rfl) (by kernel_rfl) (by kernel_rfl) (by kernel_rfl) (fun _ _ _ h => h) (Or.inl ⟨by rfl, ?_⟩) hS ?_
  rotate_left
  · (intro wq hq; go_simp; try with_reducible rfl)
  try simp only [Act.put, List.setIfInBounds_toArray, List.set_cons_zero, List.set_cons_succ, List.getElem_toArray, List.getElem_cons_zero, List.getElem_cons_succ]
  refine AnyBut.takeE (i := 7) (v := ?_) rfl (by kernel_rfl) (by kernel_rfl) (by kernel_rfl) (by kernel_rfl) (fun _ _ _ h => h) (Or.inl ⟨by rfl, ?_⟩) hS ?_
  rotate_left
  · (intro wq hq; go_simp; try with_reducible rfl)
  try simp only [Act.put, List.setIfInBounds_toArray, List.set_cons_zero, List.set_cons_succ, List.getElem_toArray, List.getElem_cons_zero, List.getElem_cons_succ]
  refine AnyBut.gone (i := 8) (by kernel_rfl) rfl (by rfl) (fun K hK => ?_)
  go_simp
  refine hK _ _ (fun _ => hS) ?_
  clear hK K
  refine AnyBut.done (by kernel_rfl) ?_ _
  dsimp only [Exit.then]
  clear hS
  go_wp2_with fail
  go_ret2
  exact ⟨rfl, HB4.out⟩
end Go.Proofs.YtnkkhmgplpkjbaaDoor
