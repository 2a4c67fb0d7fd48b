/- What the document's own Put and Bare, and the program's Bare, return. -/
import Derived.Test.YtnkkhmgplpkjbaaDoorOf
import Derived.Test.YtnkkhmgplpkjbaaDoorOg
import Derived.Outline
import Derived.Test.YtnkkhmgplpkjbaaDoorXh
import Derived.Laws.Tables
namespace Go.Proofs.YtnkkhmgplpkjbaaDoor
open Go.RowKit
set_option linter.unusedVariables false
set_option linter.unusedSimpArgs false
set_option maxRecDepth 100000
theorem rlay_any (t : TTx) (i o : Value) (full : Bool) (w : World) (h : TxOk w w.heap.size t i o) (hc : chk t = 0) : Calls Tryd.prog 29 #[txV t i o, .bool full] w (LaidPost (layB t full) w) := by
  cases full
  · exact rlay_false t i o w h hc
  · exact rlay_true t i o w h hc
/-- The box of a transaction that came by value. -/
theorem tx_box (ver lock : Int) (i o : Value) (w : World) (T : TypeId) : ∀ wq, SB (w.alloc (.cells #[.int .u32 ver, i, o, .int .u32 lock] T)) wq →
    wq.cell? ⟨w.heap.size, 0, none⟩ = some (.int .u32 ver) ∧ wq.cell? ⟨w.heap.size, 1, none⟩ = some i ∧ wq.cell? ⟨w.heap.size, 2, none⟩ = some o ∧ wq.cell? ⟨w.heap.size, 3, none⟩ = some (.int .u32 lock) := fun wq hq =>
  ⟨hq.cell (cell_new (w := w) rfl rfl), hq.cell (cell_new (w := w) rfl rfl), hq.cell (cell_new (w := w) rfl rfl), hq.cell (cell_new (w := w) rfl rfl)⟩
set_option maxHeartbeats 4000000 in
theorem rbare_ok (t : TTx) (i o : Value) (w : World) (h : TxOk w w.heap.size t i o) (hc : chk t = 0) :
    Calls Tryd.prog 11 #[txV t i o] w (GavePost (layB t false) w) := by
  have h' := h
  obtain ⟨⟨A1, c1, rfl, _, _, _⟩, ⟨A2, c2, rfl, _, _, _⟩, _, _⟩ := h
  obtain ⟨n1, hn1⟩ : ∃ n, n = t.ins.length := ⟨_, rfl⟩
  obtain ⟨n2, hn2⟩ : ∃ n, n = t.outs.length := ⟨_, rfl⟩
  obtain ⟨ver, hv⟩ : ∃ n, n = t.ver := ⟨_, rfl⟩
  obtain ⟨lock, hlk⟩ : ∃ n, n = t.lock := ⟨_, rfl⟩
  have K13 : Hid (∀ wq, Below w.heap.size w wq → Calls Tryd.prog 13 #[.agg #[.int .u32 (ver : Int), .slice A1 n1 c1, .slice A2 n2 c2, .int .u32 (lock : Int)]] wq (IntPost 0 wq)) := fun wq hq => by
    have := rcheck_any t _ _ wq ((h'.keep hq (Nat.le_refl _)).up hq.size)
    rw [hc] at this
    unfold txV at this
    rw [← hv, ← hlk, ← hn1, ← hn2] at this
    exact this
  obtain ⟨X, hX⟩ : ∃ X, X = layB t false := ⟨_, rfl⟩
  have K29 : Hid (∀ wq, Below w.heap.size w wq → Calls Tryd.prog 29 #[.agg #[.int .u32 (ver : Int), .slice A1 n1 c1, .slice A2 n2 c2, .int .u32 (lock : Int)], .bool false] wq (LaidPost X wq)) := fun wq hq => by
    have := rlay_any t _ _ false wq ((h'.keep hq (Nat.le_refl _)).up hq.size) hc
    unfold txV at this
    rw [← hv, ← hlk, ← hn1, ← hn2, ← hX] at this
    exact this
  have HB : Hid (Below w.heap.size w (w.alloc (.cells #[.int .u32 (ver : Int), .slice A1 n1 c1, .slice A2 n2 c2, .int .u32 (lock : Int)] 26))) := (Below.refl _ _).alloc (Nat.le_refl _) _
  have HT := Lib.hid (tx_box (ver : Int) (lock : Int) (.slice A1 n1 c1) (.slice A2 n2 c2) w 26)
  unfold txV
  rw [← hv, ← hlk, ← hn1, ← hn2, ← hX]
  clear h' hc hn1 hn2 hv hlk hX
  go_enter Tryd.func11, Tryd.ntmps11
  go_wp2_with (first
    | (go_at_call 13; (with_reducible refine (K13.out _ HB.out).mono ?_); rintro e w2 ⟨rfl, hb2⟩; have HB2 : Hid (Below w.heap.size w w2) := HB.out.trans (hb2.mono HB.out.size); obtain ⟨d0, d1, d2, d3⟩ := HT.out w2 hb2; clear hb2; dsimp only)
    | (go_at_call 29; (with_reducible refine (K29.out _ HB2.out).mono ?_); rintro e w3 ⟨v3, rfl, ho3, hb3⟩; obtain ⟨A3, c3, rfl, _, _⟩ := slice_form ho3; have HB3 : Hid (Below w.heap.size w w3) := HB2.out.trans (hb3.mono HB2.out.size); have HO3 := Lib.hid (ho3.base HB2.out.size); clear hb3 ho3; dsimp only))
  go_ret2
  exact ⟨A3, c3, rfl, HO3.out, HB3.out⟩
set_option maxHeartbeats 4000000 in
theorem rbare_no (t : TTx) (i o : Value) (w : World) (h : TxOk w w.heap.size t i o) (hc : chk t ≠ 0) :
    Calls Tryd.prog 11 #[txV t i o] w (NonePost (chk t) w) := by
  have h' := h
  obtain ⟨⟨A1, c1, rfl, _, _, _⟩, ⟨A2, c2, rfl, _, _, _⟩, _, _⟩ := h
  obtain ⟨n1, hn1⟩ : ∃ n, n = t.ins.length := ⟨_, rfl⟩
  obtain ⟨n2, hn2⟩ : ∃ n, n = t.outs.length := ⟨_, rfl⟩
  obtain ⟨ver, hv⟩ : ∃ n, n = t.ver := ⟨_, rfl⟩
  obtain ⟨lock, hlk⟩ : ∃ n, n = t.lock := ⟨_, rfl⟩
  obtain ⟨c, hcc⟩ : ∃ c, c = chk t := ⟨_, rfl⟩
  have K13 : Hid (∀ wq, Below w.heap.size w wq → Calls Tryd.prog 13 #[.agg #[.int .u32 (ver : Int), .slice A1 n1 c1, .slice A2 n2 c2, .int .u32 (lock : Int)]] wq (IntPost c wq)) := fun wq hq => by
    have := rcheck_any t _ _ wq ((h'.keep hq (Nat.le_refl _)).up hq.size)
    rw [← hcc] at this
    unfold txV at this
    rw [← hv, ← hlk, ← hn1, ← hn2] at this
    exact this
  have HB : Hid (Below w.heap.size w (w.alloc (.cells #[.int .u32 (ver : Int), .slice A1 n1 c1, .slice A2 n2 c2, .int .u32 (lock : Int)] 26))) := (Below.refl _ _).alloc (Nat.le_refl _) _
  have hne : (c != 0) = true := by rw [hcc]; simpa using hc
  unfold txV
  rw [← hv, ← hlk, ← hn1, ← hn2, ← hcc]
  clear h' hc hn1 hn2 hv hlk hcc
  go_enter Tryd.func11, Tryd.ntmps11
  go_wp2_with (go_at_call 13; (with_reducible refine (K13.out _ HB.out).mono ?_); rintro e w2 ⟨rfl, hb2⟩; dsimp only)
  go_ret2
  exact ⟨rfl, HB.out.trans (hb2.mono HB.out.size)⟩
set_option maxHeartbeats 4000000 in
theorem rput_no5 (t : TTx) (i o : Value) (w : World) (h : TxOk w w.heap.size t i o) (hc : chk t ≠ 0) :
    Calls Tryd.prog 9 #[txV t i o] w (NonePost (chk t) w) := by
  have h' := h
  obtain ⟨⟨A1, c1, rfl, _, _, _⟩, ⟨A2, c2, rfl, _, _, _⟩, _, _⟩ := h
  obtain ⟨n1, hn1⟩ : ∃ n, n = t.ins.length := ⟨_, rfl⟩
  obtain ⟨n2, hn2⟩ : ∃ n, n = t.outs.length := ⟨_, rfl⟩
  obtain ⟨ver, hv⟩ : ∃ n, n = t.ver := ⟨_, rfl⟩
  obtain ⟨lock, hlk⟩ : ∃ n, n = t.lock := ⟨_, rfl⟩
  obtain ⟨c, hcc⟩ : ∃ c, c = chk t := ⟨_, rfl⟩
  have K13 : Hid (∀ wq, Below w.heap.size w wq → Calls Tryd.prog 13 #[.agg #[.int .u32 (ver : Int), .slice A1 n1 c1, .slice A2 n2 c2, .int .u32 (lock : Int)]] wq (IntPost c wq)) := fun wq hq => by
    have := rcheck_any t _ _ wq ((h'.keep hq (Nat.le_refl _)).up hq.size)
    rw [← hcc] at this
    unfold txV at this
    rw [← hv, ← hlk, ← hn1, ← hn2] at this
    exact this
  have HB : Hid (Below w.heap.size w (w.alloc (.cells #[.int .u32 (ver : Int), .slice A1 n1 c1, .slice A2 n2 c2, .int .u32 (lock : Int)] 26))) := (Below.refl _ _).alloc (Nat.le_refl _) _
  have hne : (c != 0) = true := by rw [hcc]; simpa using hc
  unfold txV
  rw [← hv, ← hlk, ← hn1, ← hn2, ← hcc]
  clear h' hc hn1 hn2 hv hlk hcc
  go_enter Tryd.func9, Tryd.ntmps9
  go_wp2_with (go_at_call 13; (with_reducible refine (K13.out _ HB.out).mono ?_); rintro e w2 ⟨rfl, hb2⟩; dsimp only)
  go_ret2
  exact ⟨rfl, HB.out.trans (hb2.mono HB.out.size)⟩

open Go.RowKit
set_option linter.unusedVariables false
set_option linter.unusedSimpArgs false
set_option maxRecDepth 100000
theorem zero38 : ∀ w, (zeroValue 38).run Tryd.prog w = .ok (.agg (vbs Z32).toArray) w := fun _ => by kernel_rfl
theorem wpList_zero38 {ops : Array Oper} {rest : List Oper} {o : Oper} {a : Act} {w : World} {Q : Exit → Act → World → Prop} (hg : o.guard = none) (ho : o.op = .build 38 #[])
    (h : wpList Tryd.prog ops Q rest (a.put o.dst (.agg (vbs Z32).toArray)) w) : wpList Tryd.prog ops Q (o :: rest) a w :=
  wpList_build hg 38 _ ho (by kernel_rfl) (by
    rw [show (Tryd.prog.built 38 ((#[] : Array (Nat × Operand)).map fun (i, x) => (i, a.eval x)).toList).getD #[] = (vbs Z32).toArray by kernel_rfl]
    exact h)
theorem hash_box (w : World) {D : List (BitVec 8)} (h : D.length = 32) : Blk ((w.alloc (.cells (vbs Z32).toArray 38)).setCells w.heap.size 0 (vbs D)) w.heap.size 38 (vbs D) := Blk.laid w h
/-- A hash is told. -/
def HashP (D : List (BitVec 8)) (w : World) (e : Ending) (w' : World) : Prop := e = .returned (.agg (vbs D).toArray) ∧ Below w.heap.size w w'
theorem name_ok (A : Option Addr) (X : List (BitVec 8)) (n c : Nat) (w : World) (hn : X.length = n) (hG : Glob w) (hR : Rd w w.heap.size A X) (hc : n ≤ c) (hl : n ≤ 1000000) : Calls Tryd.prog 37 #[.slice A n c, .int .i64 0] w (HashP (twiceB X) w) := by
  have hz := zero38
  have hT0 := Blk.new w 38 (vbs Z32).toArray
  rw [List.toList_toArray] at hT0
  have hB0 : Below w.heap.size w (w.alloc (.cells (vbs Z32).toArray 38)) := (Below.refl _ _).alloc (Nat.le_refl _) _
  obtain ⟨D, hD⟩ : ∃ D, D = twiceB X := ⟨_, rfl⟩
  have HDl := Lib.hid (show D.length = 32 by rw [hD]; exact sumB_len _)
  have KT := twice_any A c X (w.alloc (.cells (vbs Z32).toArray 38)) (hG.below hB0) ((hR.keep hB0).up hB0.size) (by omega) (by omega)
  rw [hn, ← hD] at KT
  have HK := Lib.hid KT
  have HT := Lib.hid hT0
  have HB := Lib.hid hB0
  rw [← hD]
  clear hT0 hB0 hG hR hD hc hl hn KT
  go_enter Tryd.func37, Tryd.ntmps37
  go_wp2_with (first
    | (go_at_call 56; (with_reducible refine HK.out.mono ?_); rintro e w3 ⟨rfl, hb3⟩; have HB3 := Lib.hid hb3; have HT3 := Lib.hid (HT.out.below hb3 HT.out.lt); clear hb3; dsimp only)
    | (with_reducible refine wpList_store_mid rfl 38 (.tmp 4) (.tmp 9) rfl w.heap.size 0 (vbs D).toArray rfl rfl (there_z HT3.out HDl.out) (i25v HDl.out) (all_oneCell_toArray (vbs_one _)) ?_))
  have hS := HT3.out.setCells (vbs D) (by rw [vbs_len, vbs_len, HDl.out]; rfl)
  have hbb := below_setCells (B := w.heap.size) (b := w.heap.size) (Nat.le_refl _) (vbs D) 0 w3 (HB.out.trans (HB3.out.mono HB.out.size))
  generalize w3.setCells w.heap.size 0 (vbs D) = W9 at hS hbb
  exact bodyPost_ret (v := .agg (vbs D).toArray) (results_cell_row Tryd.results37 _ W9 w.heap.size 38 (vbs D).toArray (0, 0) _ rfl hS Tryd.underlying38 rfl (i25v HDl.out)) rfl ⟨rfl, hbb⟩
theorem name_no (v : Value) (c : Int) (w : World) (hc : c ≠ 0) : Calls Tryd.prog 37 #[v, .int .i64 c] w (HashP Z32 w) := by
  have hz := zero38
  have hT0 := Blk.new w 38 (vbs Z32).toArray
  rw [List.toList_toArray] at hT0
  have HT := Lib.hid hT0
  have HB : Hid (Below w.heap.size w (w.alloc (.cells (vbs Z32).toArray 38))) := (Below.refl _ _).alloc (Nat.le_refl _) _
  have HZl : Hid (Z32.length = 32) := (rfl : Z32.length = 32)
  have hne : (c != 0) = true := by simpa using hc
  clear hT0 hc
  go_enter Tryd.func37, Tryd.ntmps37
  go_wp2_with (first
    | (refine wpList_zero38 rfl rfl ?_)
    | (with_reducible refine wpList_store_mid rfl 38 (.tmp 4) (.tmp 7) rfl w.heap.size 0 (vbs Z32).toArray rfl rfl (there_z HT.out HZl.out) (i25v HZl.out) (all_oneCell_toArray (vbs_one _)) ?_))
  have hS := HT.out.setCells (vbs Z32) rfl
  have hbb := below_setCells (B := w.heap.size) (b := w.heap.size) (Nat.le_refl _) (vbs Z32) 0 _ HB.out
  generalize (w.alloc (.cells (vbs Z32).toArray 38)).setCells w.heap.size 0 (vbs Z32) = W9 at hS hbb
  exact bodyPost_ret (v := .agg (vbs Z32).toArray) (results_cell_row Tryd.results37 _ W9 w.heap.size 38 (vbs Z32).toArray (0, 0) _ rfl hS Tryd.underlying38 rfl (i25v HZl.out)) rfl ⟨rfl, hbb⟩
set_option maxHeartbeats 4000000 in
theorem bare_ok (t : TTx) (i o b : Value) (L : List (BitVec 8)) (w : World) (h : TxOk w w.heap.size t i o) (hL : Sl w w.heap.size b L) (hl : L.length ≤ 100000) (hc : chk t = 0) :
    Calls Tryd.prog 10 #[b, txV t i o] w (GavePost (L ++ layB t false) w) := by
  have h' := h
  obtain ⟨⟨A1, c1, rfl, _, _, _⟩, ⟨A2, c2, rfl, _, _, _⟩, _, _⟩ := h
  obtain ⟨n1, hn1⟩ : ∃ n, n = t.ins.length := ⟨_, rfl⟩
  obtain ⟨n2, hn2⟩ : ∃ n, n = t.outs.length := ⟨_, rfl⟩
  obtain ⟨ver, hv⟩ : ∃ n, n = t.ver := ⟨_, rfl⟩
  obtain ⟨lock, hlk⟩ : ∃ n, n = t.lock := ⟨_, rfl⟩
  obtain ⟨X, hX⟩ : ∃ X, X = L ++ layB t false := ⟨_, rfl⟩
  have K28 : Hid (∀ wq, Below w.heap.size w wq → Calls Tryd.prog 28 #[b, .agg #[.int .u32 (ver : Int), .slice A1 n1 c1, .slice A2 n2 c2, .int .u32 (lock : Int)], .bool false] wq (GavePost X wq)) := fun wq hq => by
    have := put_ok t _ _ b L false wq ((h'.keep hq (Nat.le_refl _)).up hq.size) ((hL.keep hq (Nat.le_refl _)).up hq.size) hl hc
    unfold txV at this
    rw [← hv, ← hlk, ← hn1, ← hn2, ← hX] at this
    exact this
  have HB : Hid (Below w.heap.size w (w.alloc (.cells #[.int .u32 (ver : Int), .slice A1 n1 c1, .slice A2 n2 c2, .int .u32 (lock : Int)] 26))) := (Below.refl _ _).alloc (Nat.le_refl _) _
  obtain ⟨d0, d1, d2, d3⟩ := tx_box (ver : Int) (lock : Int) (.slice A1 n1 c1) (.slice A2 n2 c2) w 26 _ (SB.refl _)
  unfold txV
  rw [← hv, ← hlk, ← hn1, ← hn2, ← hX]
  clear h' hc hn1 hn2 hv hlk hX hL hl
  go_enter Tryd.func10, Tryd.ntmps10
  go_wp2_with (go_at_call 28; (with_reducible refine (K28.out _ HB.out).mono ?_); rintro e w4 ⟨A4, c4, rfl, ho4, hb4⟩; have HB4 : Hid (Below w.heap.size w w4) := HB.out.trans (hb4.mono HB.out.size); have HO4 := Lib.hid (ho4.base HB.out.size); clear ho4 hb4; dsimp only)
  go_ret2
  exact ⟨A4, c4, rfl, HO4.out, HB4.out⟩
set_option maxHeartbeats 4000000 in
theorem bare_no (t : TTx) (i o b : Value) (w : World) (h : TxOk w w.heap.size t i o) (hc : chk t ≠ 0) :
    Calls Tryd.prog 10 #[b, txV t i o] w (NonePost (chk t) w) := by
  have h' := h
  obtain ⟨⟨A1, c1, rfl, _, _, _⟩, ⟨A2, c2, rfl, _, _, _⟩, _, _⟩ := h
  obtain ⟨n1, hn1⟩ : ∃ n, n = t.ins.length := ⟨_, rfl⟩
  obtain ⟨n2, hn2⟩ : ∃ n, n = t.outs.length := ⟨_, rfl⟩
  obtain ⟨ver, hv⟩ : ∃ n, n = t.ver := ⟨_, rfl⟩
  obtain ⟨lock, hlk⟩ : ∃ n, n = t.lock := ⟨_, rfl⟩
  obtain ⟨c, hcc⟩ : ∃ c, c = chk t := ⟨_, rfl⟩
  have K28 : Hid (∀ wq, Below w.heap.size w wq → Calls Tryd.prog 28 #[b, .agg #[.int .u32 (ver : Int), .slice A1 n1 c1, .slice A2 n2 c2, .int .u32 (lock : Int)], .bool false] wq (NonePost c wq)) := fun wq hq => by
    have := put_no t _ _ b false wq ((h'.keep hq (Nat.le_refl _)).up hq.size) hc
    unfold txV at this
    rw [← hv, ← hlk, ← hn1, ← hn2, ← hcc] at this
    exact this
  have HB : Hid (Below w.heap.size w (w.alloc (.cells #[.int .u32 (ver : Int), .slice A1 n1 c1, .slice A2 n2 c2, .int .u32 (lock : Int)] 26))) := (Below.refl _ _).alloc (Nat.le_refl _) _
  obtain ⟨d0, d1, d2, d3⟩ := tx_box (ver : Int) (lock : Int) (.slice A1 n1 c1) (.slice A2 n2 c2) w 26 _ (SB.refl _)
  unfold txV
  rw [← hv, ← hlk, ← hn1, ← hn2, ← hcc]
  clear h' hc hn1 hn2 hv hlk hcc
  go_enter Tryd.func10, Tryd.ntmps10
  go_wp2_with (go_at_call 28; (with_reducible refine (K28.out _ HB.out).mono ?_); rintro e w4 ⟨rfl, hb4⟩; have HB4 : Hid (Below w.heap.size w w4) := HB.out.trans (hb4.mono HB.out.size); clear hb4; dsimp only)
  go_ret2
  exact ⟨rfl, HB4.out⟩
set_option maxHeartbeats 4000000 in
theorem id5_ok (t : TTx) (i o : Value) (w : World) (h : TxOk w w.heap.size t i o) (hc : chk t = 0) (hG : Glob w) :
    Calls Tryd.prog 16 #[txV t i o] w (HashP (twiceB (layB t false)) w) := by
  have h' := h
  obtain ⟨⟨A1, c1, rfl, _, _, _⟩, ⟨A2, c2, rfl, _, _, _⟩, _, _⟩ := h
  obtain ⟨n1, hn1⟩ : ∃ n, n = t.ins.length := ⟨_, rfl⟩
  obtain ⟨n2, hn2⟩ : ∃ n, n = t.outs.length := ⟨_, rfl⟩
  obtain ⟨ver, hv⟩ : ∃ n, n = t.ver := ⟨_, rfl⟩
  obtain ⟨lock, hlk⟩ : ∃ n, n = t.lock := ⟨_, rfl⟩
  have hz := zero38
  have es : (w.alloc (.cells #[.int .u32 (ver : Int), .slice A1 n1 c1, .slice A2 n2 c2, .int .u32 (lock : Int)] 26)).heap.size = w.heap.size + 1 := by simp
  have hT0 := Blk.new (w.alloc (.cells #[.int .u32 (ver : Int), .slice A1 n1 c1, .slice A2 n2 c2, .int .u32 (lock : Int)] 26)) 38 (vbs Z32).toArray
  rw [es, List.toList_toArray] at hT0
  have hB0 : Below w.heap.size w ((w.alloc (.cells #[.int .u32 (ver : Int), .slice A1 n1 c1, .slice A2 n2 c2, .int .u32 (lock : Int)] 26)).alloc (.cells (vbs Z32).toArray 38)) := ((Below.refl _ _).alloc (Nat.le_refl _) _).alloc (by simp) _
  obtain ⟨d0, d1, d2, d3⟩ := tx_box (ver : Int) (lock : Int) (.slice A1 n1 c1) (.slice A2 n2 c2) w 26 ((w.alloc (.cells #[.int .u32 (ver : Int), .slice A1 n1 c1, .slice A2 n2 c2, .int .u32 (lock : Int)] 26)).alloc (.cells (vbs Z32).toArray 38)) ((Below.refl _ _).alloc (Nat.le_refl _) _)
  obtain ⟨X, hX⟩ : ∃ X, X = layB t false := ⟨_, rfl⟩
  have hXl : X.length ≤ 100000 := by rw [hX]; exact lay_len _ h' hc
  have KP : Hid (∀ wq, Below w.heap.size w wq → Calls Tryd.prog 10 #[.slice none 0 0, .agg #[.int .u32 (ver : Int), .slice A1 n1 c1, .slice A2 n2 c2, .int .u32 (lock : Int)]] wq (GavePost X wq)) := fun wq hq => by
    have := bare_ok t _ _ (.slice none 0 0) [] wq ((h'.keep hq (Nat.le_refl _)).up hq.size) (Sl.nil _ _) (by simp) hc
    rw [List.nil_append] at this
    unfold txV at this
    rw [← hv, ← hlk, ← hn1, ← hn2, ← hX] at this
    exact this
  obtain ⟨D, hD⟩ : ∃ D, D = twiceB X := ⟨_, rfl⟩
  rw [← hX, ← hD]
  have HDl := Lib.hid (show D.length = 32 by rw [hD]; exact sumB_len _)
  have KN : Hid (∀ (A : Option Addr) (n c : Nat) (wq : World), X.length = n → Glob wq → Rd wq wq.heap.size A X → n ≤ c → Calls Tryd.prog 37 #[.slice A n c, .int .i64 0] wq (HashP D wq)) := fun A n c wq e g r l => by
    rw [hD]; exact name_ok A X n c wq e g r l (by omega)
  have HT := Lib.hid hT0
  have HB := Lib.hid hB0
  have HG := Lib.hid hG
  have es' := Lib.hid es
  unfold txV
  rw [← hv, ← hlk, ← hn1, ← hn2]
  clear h' hc hn1 hn2 hv hlk hT0 hB0 hG es hD hX hXl
  go_enter Tryd.func16, Tryd.ntmps16
  go_upto_region 1 with fail
  generalize (w.alloc (.cells #[.int .u32 (ver : Int), .slice A1 n1 c1, .slice A2 n2 c2, .int .u32 (lock : Int)] 26)).alloc (.cells (vbs Z32).toArray 38) = W1 at HT HB d0 d1 d2 d3 ⊢
  clear hz
  go_wp2_with (first
    | (go_at_call 10; (with_reducible refine (KP.out _ HB.out).mono ?_); rintro e w2 ⟨A4, c4, rfl, ho2, hb2⟩; obtain ⟨A5, c5, e5, hr5, hc5, _, _⟩ := ho2.rd; injection e5 with e6 e7 e8; subst e6 e8; have HR5 := Lib.hid hr5; have HC5 := Lib.hid hc5; have HB2 := Lib.hid hb2; clear ho2 hb2 hr5 hc5; dsimp only)
    | (go_at_call 37; (with_reducible refine (KN.out _ _ _ _ rfl (HG.out.below (HB.out.trans (HB2.out.mono HB.out.size))) HR5.out HC5.out).mono ?_); rintro e w3 ⟨rfl, hb3⟩; have HB3 := Lib.hid hb3; have HT3 := Lib.hid ((HT.out.below HB2.out HT.out.lt).below hb3 (HT.out.below HB2.out HT.out.lt).lt); clear hb3; dsimp only)
    | (with_reducible refine wpList_store_mid rfl 38 (.tmp 2) (.tmp 7) rfl (w.heap.size + 1) 0 (vbs D).toArray rfl rfl (there_z HT3.out HDl.out) (i25v HDl.out) (all_oneCell_toArray (vbs_one _)) ?_))
  have hS := HT3.out.setCells (vbs D) (by rw [vbs_len, vbs_len, HDl.out]; rfl)
  have hbb := below_setCells (B := w.heap.size) (b := w.heap.size + 1) (by omega) (vbs D) 0 w3 (HB.out.trans ((HB2.out.mono HB.out.size).trans (HB3.out.mono (Nat.le_trans HB.out.size HB2.out.size))))
  generalize w3.setCells (w.heap.size + 1) 0 (vbs D) = W9 at hS hbb
  exact bodyPost_ret (v := .agg (vbs D).toArray) (results_cell_row Tryd.results16 _ W9 (w.heap.size + 1) 38 (vbs D).toArray (0, 0) _ rfl hS Tryd.underlying38 rfl (i25v HDl.out)) rfl ⟨rfl, hbb⟩
set_option maxHeartbeats 4000000 in
theorem id5_no (t : TTx) (i o : Value) (w : World) (h : TxOk w w.heap.size t i o) (hc : chk t ≠ 0) (hG : Glob w) :
    Calls Tryd.prog 16 #[txV t i o] w (HashP Z32 w) := by
  have h' := h
  obtain ⟨⟨A1, c1, rfl, _, _, _⟩, ⟨A2, c2, rfl, _, _, _⟩, _, _⟩ := h
  obtain ⟨n1, hn1⟩ : ∃ n, n = t.ins.length := ⟨_, rfl⟩
  obtain ⟨n2, hn2⟩ : ∃ n, n = t.outs.length := ⟨_, rfl⟩
  obtain ⟨ver, hv⟩ : ∃ n, n = t.ver := ⟨_, rfl⟩
  obtain ⟨lock, hlk⟩ : ∃ n, n = t.lock := ⟨_, rfl⟩
  have hz := zero38
  have es : (w.alloc (.cells #[.int .u32 (ver : Int), .slice A1 n1 c1, .slice A2 n2 c2, .int .u32 (lock : Int)] 26)).heap.size = w.heap.size + 1 := by simp
  have hT0 := Blk.new (w.alloc (.cells #[.int .u32 (ver : Int), .slice A1 n1 c1, .slice A2 n2 c2, .int .u32 (lock : Int)] 26)) 38 (vbs Z32).toArray
  rw [es, List.toList_toArray] at hT0
  have hB0 : Below w.heap.size w ((w.alloc (.cells #[.int .u32 (ver : Int), .slice A1 n1 c1, .slice A2 n2 c2, .int .u32 (lock : Int)] 26)).alloc (.cells (vbs Z32).toArray 38)) := ((Below.refl _ _).alloc (Nat.le_refl _) _).alloc (by simp) _
  obtain ⟨d0, d1, d2, d3⟩ := tx_box (ver : Int) (lock : Int) (.slice A1 n1 c1) (.slice A2 n2 c2) w 26 ((w.alloc (.cells #[.int .u32 (ver : Int), .slice A1 n1 c1, .slice A2 n2 c2, .int .u32 (lock : Int)] 26)).alloc (.cells (vbs Z32).toArray 38)) ((Below.refl _ _).alloc (Nat.le_refl _) _)
  obtain ⟨c, hcc⟩ : ∃ c, c = chk t := ⟨_, rfl⟩
  have KP : Hid (∀ wq, Below w.heap.size w wq → Calls Tryd.prog 10 #[.slice none 0 0, .agg #[.int .u32 (ver : Int), .slice A1 n1 c1, .slice A2 n2 c2, .int .u32 (lock : Int)]] wq (NonePost c wq)) := fun wq hq => by
    have := bare_no t _ _ (.slice none 0 0) wq ((h'.keep hq (Nat.le_refl _)).up hq.size) hc
    unfold txV at this
    rw [← hv, ← hlk, ← hn1, ← hn2, ← hcc] at this
    exact this
  obtain ⟨D, hD⟩ : ∃ D, D = Z32 := ⟨_, rfl⟩
  rw [← hD]
  have HDl := Lib.hid (show D.length = 32 by rw [hD]; rfl)
  have KN : Hid (∀ (wq : World), Calls Tryd.prog 37 #[.slice none 0 0, .int .i64 c] wq (HashP D wq)) := fun wq => by
    rw [hD]; exact name_no _ c wq (by rw [hcc]; exact hc)
  have HT := Lib.hid hT0
  have HB := Lib.hid hB0
  have HG := Lib.hid hG
  have es' := Lib.hid es
  unfold txV
  rw [← hv, ← hlk, ← hn1, ← hn2]
  clear h' hc hn1 hn2 hv hlk hT0 hB0 hG es hD hcc
  go_enter Tryd.func16, Tryd.ntmps16
  go_upto_region 1 with fail
  generalize (w.alloc (.cells #[.int .u32 (ver : Int), .slice A1 n1 c1, .slice A2 n2 c2, .int .u32 (lock : Int)] 26)).alloc (.cells (vbs Z32).toArray 38) = W1 at HT HB d0 d1 d2 d3 ⊢
  clear hz
  go_wp2_with (first
    | (go_at_call 10; (with_reducible refine (KP.out _ HB.out).mono ?_); rintro e w2 ⟨rfl, hb2⟩; have HB2 := Lib.hid hb2; clear hb2; dsimp only)
    | (go_at_call 37; (with_reducible refine (KN.out _).mono ?_); rintro e w3 ⟨rfl, hb3⟩; have HB3 := Lib.hid hb3; have HT3 := Lib.hid ((HT.out.below HB2.out HT.out.lt).below hb3 (HT.out.below HB2.out HT.out.lt).lt); clear hb3; dsimp only)
    | (with_reducible refine wpList_store_mid rfl 38 (.tmp 2) (.tmp 7) rfl (w.heap.size + 1) 0 (vbs D).toArray rfl rfl (there_z HT3.out HDl.out) (i25v HDl.out) (all_oneCell_toArray (vbs_one _)) ?_))
  have hS := HT3.out.setCells (vbs D) (by rw [vbs_len, vbs_len, HDl.out]; rfl)
  have hbb := below_setCells (B := w.heap.size) (b := w.heap.size + 1) (by omega) (vbs D) 0 w3 (HB.out.trans ((HB2.out.mono HB.out.size).trans (HB3.out.mono (Nat.le_trans HB.out.size HB2.out.size))))
  generalize w3.setCells (w.heap.size + 1) 0 (vbs D) = W9 at hS hbb
  exact bodyPost_ret (v := .agg (vbs D).toArray) (results_cell_row Tryd.results16 _ W9 (w.heap.size + 1) 38 (vbs D).toArray (0, 0) _ rfl hS Tryd.underlying38 rfl (i25v HDl.out)) rfl ⟨rfl, hbb⟩
set_option maxHeartbeats 4000000 in
theorem full5_ok (t : TTx) (i o : Value) (w : World) (h : TxOk w w.heap.size t i o) (hc : chk t = 0) (hG : Glob w) :
    Calls Tryd.prog 18 #[txV t i o] w (HashP (twiceB (layB t (witd t))) w) := by
  have h' := h
  obtain ⟨⟨A1, c1, rfl, _, _, _⟩, ⟨A2, c2, rfl, _, _, _⟩, _, _⟩ := h
  obtain ⟨n1, hn1⟩ : ∃ n, n = t.ins.length := ⟨_, rfl⟩
  obtain ⟨n2, hn2⟩ : ∃ n, n = t.outs.length := ⟨_, rfl⟩
  obtain ⟨ver, hv⟩ : ∃ n, n = t.ver := ⟨_, rfl⟩
  obtain ⟨lock, hlk⟩ : ∃ n, n = t.lock := ⟨_, rfl⟩
  have hz := zero38
  have es : (w.alloc (.cells #[.int .u32 (ver : Int), .slice A1 n1 c1, .slice A2 n2 c2, .int .u32 (lock : Int)] 26)).heap.size = w.heap.size + 1 := by simp
  have hT0 := Blk.new (w.alloc (.cells #[.int .u32 (ver : Int), .slice A1 n1 c1, .slice A2 n2 c2, .int .u32 (lock : Int)] 26)) 38 (vbs Z32).toArray
  rw [es, List.toList_toArray] at hT0
  have hB0 : Below w.heap.size w ((w.alloc (.cells #[.int .u32 (ver : Int), .slice A1 n1 c1, .slice A2 n2 c2, .int .u32 (lock : Int)] 26)).alloc (.cells (vbs Z32).toArray 38)) := ((Below.refl _ _).alloc (Nat.le_refl _) _).alloc (by simp) _
  obtain ⟨d0, d1, d2, d3⟩ := tx_box (ver : Int) (lock : Int) (.slice A1 n1 c1) (.slice A2 n2 c2) w 26 ((w.alloc (.cells #[.int .u32 (ver : Int), .slice A1 n1 c1, .slice A2 n2 c2, .int .u32 (lock : Int)] 26)).alloc (.cells (vbs Z32).toArray 38)) ((Below.refl _ _).alloc (Nat.le_refl _) _)
  obtain ⟨X, hX⟩ : ∃ X, X = layB t (witd t) := ⟨_, rfl⟩
  have hXl : X.length ≤ 100000 := by rw [hX]; exact lay_len _ h' hc
  have KP : Hid (∀ wq, Below w.heap.size w wq → Calls Tryd.prog 8 #[.slice none 0 0, .agg #[.int .u32 (ver : Int), .slice A1 n1 c1, .slice A2 n2 c2, .int .u32 (lock : Int)]] wq (GavePost X wq)) := fun wq hq => by
    have := Put_ok t _ _ (.slice none 0 0) [] wq ((h'.keep hq (Nat.le_refl _)).up hq.size) (Sl.nil _ _) (by simp) hc
    rw [List.nil_append] at this
    unfold txV at this
    rw [← hv, ← hlk, ← hn1, ← hn2, ← hX] at this
    exact this
  obtain ⟨D, hD⟩ : ∃ D, D = twiceB X := ⟨_, rfl⟩
  rw [← hX, ← hD]
  have HDl := Lib.hid (show D.length = 32 by rw [hD]; exact sumB_len _)
  have KN : Hid (∀ (A : Option Addr) (n c : Nat) (wq : World), X.length = n → Glob wq → Rd wq wq.heap.size A X → n ≤ c → Calls Tryd.prog 37 #[.slice A n c, .int .i64 0] wq (HashP D wq)) := fun A n c wq e g r l => by
    rw [hD]; exact name_ok A X n c wq e g r l (by omega)
  have HT := Lib.hid hT0
  have HB := Lib.hid hB0
  have HG := Lib.hid hG
  have es' := Lib.hid es
  unfold txV
  rw [← hv, ← hlk, ← hn1, ← hn2]
  clear h' hc hn1 hn2 hv hlk hT0 hB0 hG es hD hX hXl
  go_enter Tryd.func18, Tryd.ntmps18
  go_upto_region 1 with fail
  generalize (w.alloc (.cells #[.int .u32 (ver : Int), .slice A1 n1 c1, .slice A2 n2 c2, .int .u32 (lock : Int)] 26)).alloc (.cells (vbs Z32).toArray 38) = W1 at HT HB d0 d1 d2 d3 ⊢
  clear hz
  go_wp2_with (first
    | (go_at_call 8; (with_reducible refine (KP.out _ HB.out).mono ?_); rintro e w2 ⟨A4, c4, rfl, ho2, hb2⟩; obtain ⟨A5, c5, e5, hr5, hc5, _, _⟩ := ho2.rd; injection e5 with e6 e7 e8; subst e6 e8; have HR5 := Lib.hid hr5; have HC5 := Lib.hid hc5; have HB2 := Lib.hid hb2; clear ho2 hb2 hr5 hc5; dsimp only)
    | (go_at_call 37; (with_reducible refine (KN.out _ _ _ _ rfl (HG.out.below (HB.out.trans (HB2.out.mono HB.out.size))) HR5.out HC5.out).mono ?_); rintro e w3 ⟨rfl, hb3⟩; have HB3 := Lib.hid hb3; have HT3 := Lib.hid ((HT.out.below HB2.out HT.out.lt).below hb3 (HT.out.below HB2.out HT.out.lt).lt); clear hb3; dsimp only)
    | (with_reducible refine wpList_store_mid rfl 38 (.tmp 2) (.tmp 7) rfl (w.heap.size + 1) 0 (vbs D).toArray rfl rfl (there_z HT3.out HDl.out) (i25v HDl.out) (all_oneCell_toArray (vbs_one _)) ?_))
  have hS := HT3.out.setCells (vbs D) (by rw [vbs_len, vbs_len, HDl.out]; rfl)
  have hbb := below_setCells (B := w.heap.size) (b := w.heap.size + 1) (by omega) (vbs D) 0 w3 (HB.out.trans ((HB2.out.mono HB.out.size).trans (HB3.out.mono (Nat.le_trans HB.out.size HB2.out.size))))
  generalize w3.setCells (w.heap.size + 1) 0 (vbs D) = W9 at hS hbb
  exact bodyPost_ret (v := .agg (vbs D).toArray) (results_cell_row Tryd.results18 _ W9 (w.heap.size + 1) 38 (vbs D).toArray (0, 0) _ rfl hS Tryd.underlying38 rfl (i25v HDl.out)) rfl ⟨rfl, hbb⟩
set_option maxHeartbeats 4000000 in
theorem full5_no (t : TTx) (i o : Value) (w : World) (h : TxOk w w.heap.size t i o) (hc : chk t ≠ 0) (hG : Glob w) :
    Calls Tryd.prog 18 #[txV t i o] w (HashP Z32 w) := by
  have h' := h
  obtain ⟨⟨A1, c1, rfl, _, _, _⟩, ⟨A2, c2, rfl, _, _, _⟩, _, _⟩ := h
  obtain ⟨n1, hn1⟩ : ∃ n, n = t.ins.length := ⟨_, rfl⟩
  obtain ⟨n2, hn2⟩ : ∃ n, n = t.outs.length := ⟨_, rfl⟩
  obtain ⟨ver, hv⟩ : ∃ n, n = t.ver := ⟨_, rfl⟩
  obtain ⟨lock, hlk⟩ : ∃ n, n = t.lock := ⟨_, rfl⟩
  have hz := zero38
  have es : (w.alloc (.cells #[.int .u32 (ver : Int), .slice A1 n1 c1, .slice A2 n2 c2, .int .u32 (lock : Int)] 26)).heap.size = w.heap.size + 1 := by simp
  have hT0 := Blk.new (w.alloc (.cells #[.int .u32 (ver : Int), .slice A1 n1 c1, .slice A2 n2 c2, .int .u32 (lock : Int)] 26)) 38 (vbs Z32).toArray
  rw [es, List.toList_toArray] at hT0
  have hB0 : Below w.heap.size w ((w.alloc (.cells #[.int .u32 (ver : Int), .slice A1 n1 c1, .slice A2 n2 c2, .int .u32 (lock : Int)] 26)).alloc (.cells (vbs Z32).toArray 38)) := ((Below.refl _ _).alloc (Nat.le_refl _) _).alloc (by simp) _
  obtain ⟨d0, d1, d2, d3⟩ := tx_box (ver : Int) (lock : Int) (.slice A1 n1 c1) (.slice A2 n2 c2) w 26 ((w.alloc (.cells #[.int .u32 (ver : Int), .slice A1 n1 c1, .slice A2 n2 c2, .int .u32 (lock : Int)] 26)).alloc (.cells (vbs Z32).toArray 38)) ((Below.refl _ _).alloc (Nat.le_refl _) _)
  obtain ⟨c, hcc⟩ : ∃ c, c = chk t := ⟨_, rfl⟩
  have KP : Hid (∀ wq, Below w.heap.size w wq → Calls Tryd.prog 8 #[.slice none 0 0, .agg #[.int .u32 (ver : Int), .slice A1 n1 c1, .slice A2 n2 c2, .int .u32 (lock : Int)]] wq (NonePost c wq)) := fun wq hq => by
    have := Put_no t _ _ (.slice none 0 0) wq ((h'.keep hq (Nat.le_refl _)).up hq.size) hc
    unfold txV at this
    rw [← hv, ← hlk, ← hn1, ← hn2, ← hcc] at this
    exact this
  obtain ⟨D, hD⟩ : ∃ D, D = Z32 := ⟨_, rfl⟩
  rw [← hD]
  have HDl := Lib.hid (show D.length = 32 by rw [hD]; rfl)
  have KN : Hid (∀ (wq : World), Calls Tryd.prog 37 #[.slice none 0 0, .int .i64 c] wq (HashP D wq)) := fun wq => by
    rw [hD]; exact name_no _ c wq (by rw [hcc]; exact hc)
  have HT := Lib.hid hT0
  have HB := Lib.hid hB0
  have HG := Lib.hid hG
  have es' := Lib.hid es
  unfold txV
  rw [← hv, ← hlk, ← hn1, ← hn2]
  clear h' hc hn1 hn2 hv hlk hT0 hB0 hG es hD hcc
  go_enter Tryd.func18, Tryd.ntmps18
  go_upto_region 1 with fail
  generalize (w.alloc (.cells #[.int .u32 (ver : Int), .slice A1 n1 c1, .slice A2 n2 c2, .int .u32 (lock : Int)] 26)).alloc (.cells (vbs Z32).toArray 38) = W1 at HT HB d0 d1 d2 d3 ⊢
  clear hz
  go_wp2_with (first
    | (go_at_call 8; (with_reducible refine (KP.out _ HB.out).mono ?_); rintro e w2 ⟨rfl, hb2⟩; have HB2 := Lib.hid hb2; clear hb2; dsimp only)
    | (go_at_call 37; (with_reducible refine (KN.out _).mono ?_); rintro e w3 ⟨rfl, hb3⟩; have HB3 := Lib.hid hb3; have HT3 := Lib.hid ((HT.out.below HB2.out HT.out.lt).below hb3 (HT.out.below HB2.out HT.out.lt).lt); clear hb3; dsimp only)
    | (with_reducible refine wpList_store_mid rfl 38 (.tmp 2) (.tmp 7) rfl (w.heap.size + 1) 0 (vbs D).toArray rfl rfl (there_z HT3.out HDl.out) (i25v HDl.out) (all_oneCell_toArray (vbs_one _)) ?_))
  have hS := HT3.out.setCells (vbs D) (by rw [vbs_len, vbs_len, HDl.out]; rfl)
  have hbb := below_setCells (B := w.heap.size) (b := w.heap.size + 1) (by omega) (vbs D) 0 w3 (HB.out.trans ((HB2.out.mono HB.out.size).trans (HB3.out.mono (Nat.le_trans HB.out.size HB2.out.size))))
  generalize w3.setCells (w.heap.size + 1) 0 (vbs D) = W9 at hS hbb
  exact bodyPost_ret (v := .agg (vbs D).toArray) (results_cell_row Tryd.results18 _ W9 (w.heap.size + 1) 38 (vbs D).toArray (0, 0) _ rfl hS Tryd.underlying38 rfl (i25v HDl.out)) rfl ⟨rfl, hbb⟩

open Go.RowKit
set_option linter.unusedVariables false
set_option linter.unusedSimpArgs false
set_option maxRecDepth 100000
/-- The condition may be made stronger on the way. -/
theorem AnyBut.stronger {P : Program} {ops : Array Oper} {Q : Exit → Act → World → Prop} {md : Region.Mode} {S S' : World → Prop} {z : Nat} (hS : ∀ w, S' w → S w) :
    ∀ {n : Nat} {listed : Array Bool} {a : Act} {w : World}, AnyBut P md ops Q S' z n listed a w → AnyBut P md ops Q S z n listed a w
  | 0, _, _, _, h => h
  | n + 1, _, _, _, h => ⟨h.1, fun i hi => wpOp_mono (fun a' w' h' => ⟨fun hz => hS _ (h'.1 hz), AnyBut.stronger hS h'.2⟩) (h.2 i hi)⟩
theorem SB.trans {a b c : World} (h : SB a b) (k : SB b c) : SB a c := Below.trans h (Below.mono k h.size)
theorem SB.drew (w : World) : SB w w.drew := (Below.refl w.heap.size w).drew
set_option maxHeartbeats 8000000 in
theorem rput_ok5 (t : TTx) (i o : Value) (w : World) (h : TxOk w w.heap.size t i o) (hc : chk t = 0) :
    Calls Tryd.prog 9 #[txV t i o] w (GavePost (layB t (witd t)) w) := by
  have h' := h
  obtain ⟨⟨A1, c1, rfl, _, _, _⟩, ⟨A2, c2, rfl, _, _, _⟩, _, _⟩ := h
  obtain ⟨n1, hn1⟩ : ∃ n, n = t.ins.length := ⟨_, rfl⟩
  obtain ⟨n2, hn2⟩ : ∃ n, n = t.outs.length := ⟨_, rfl⟩
  obtain ⟨ver, hv⟩ : ∃ n, n = t.ver := ⟨_, rfl⟩
  obtain ⟨lock, hlk⟩ : ∃ n, n = t.lock := ⟨_, rfl⟩
  obtain ⟨f, hf⟩ : ∃ f, f = witd t := ⟨_, rfl⟩
  obtain ⟨X, hX⟩ : ∃ X, X = layB t (witd t) := ⟨_, rfl⟩
  have K13 : Hid (∀ wq, Below w.heap.size w wq → Calls Tryd.prog 13 #[.agg #[.int .u32 (ver : Int), .slice A1 n1 c1, .slice A2 n2 c2, .int .u32 (lock : Int)]] wq (IntPost 0 wq)) := fun wq hq => by
    have := rcheck_any t _ _ wq ((h'.keep hq (Nat.le_refl _)).up hq.size)
    rw [hc] at this
    unfold txV at this
    rw [← hv, ← hlk, ← hn1, ← hn2] at this
    exact this
  have K15 : Hid (∀ wq, Below w.heap.size w wq → Calls Tryd.prog 15 #[.agg #[.int .u32 (ver : Int), .slice A1 n1 c1, .slice A2 n2 c2, .int .u32 (lock : Int)]] wq (BoolPost f wq)) := fun wq hq => by
    have := rwit_any t _ _ wq ((h'.keep hq (Nat.le_refl _)).up hq.size)
    unfold txV at this
    rw [← hv, ← hlk, ← hn1, ← hn2, ← hf] at this
    exact this
  have K29 : Hid (∀ wq, Below w.heap.size w wq → Calls Tryd.prog 29 #[.agg #[.int .u32 (ver : Int), .slice A1 n1 c1, .slice A2 n2 c2, .int .u32 (lock : Int)], .bool f] wq (LaidPost X wq)) := fun wq hq => by
    have := rlay_any t _ _ (witd t) wq ((h'.keep hq (Nat.le_refl _)).up hq.size) hc
    unfold txV at this
    rw [← hv, ← hlk, ← hn1, ← hn2, ← hX, ← hf] at this
    exact this
  have HB : Hid (Below w.heap.size w (w.alloc (.cells #[.int .u32 (ver : Int), .slice A1 n1 c1, .slice A2 n2 c2, .int .u32 (lock : Int)] 26))) := (Below.refl _ _).alloc (Nat.le_refl _) _
  have HT := Lib.hid (tx_box (ver : Int) (lock : Int) (.slice A1 n1 c1) (.slice A2 n2 c2) w 26)
  unfold txV
  rw [← hv, ← hlk, ← hn1, ← hn2, ← hX]
  clear h' hc hn1 hn2 hv hlk hX hf
  go_enter Tryd.func9, Tryd.ntmps9
  go_upto_region 4 with (go_at_call 13; (with_reducible refine (K13.out _ HB.out).mono ?_); rintro e w2 ⟨rfl, hb2⟩; have HB2 : Hid (Below w.heap.size w w2) := HB.out.trans (hb2.mono HB.out.size); have HT2 : Hid (SB (w.alloc (.cells #[.int .u32 (ver : Int), .slice A1 n1 c1, .slice A2 n2 c2, .int .u32 (lock : Int)] 26)) w2) := hb2; obtain ⟨d0, d1, d2, d3⟩ := HT.out w2 hb2; clear hb2; dsimp only)
  clear d0 d1 d2 d3
  generalize hWd : w2.drew = Wd
  have E0 : Hid (∀ wq, SB Wd wq → wq.cell? ⟨w.heap.size, 0, none⟩ = some (.int .u32 (ver : Int)) ∧ wq.cell? ⟨w.heap.size, 1, none⟩ = some (.slice A1 n1 c1) ∧ wq.cell? ⟨w.heap.size, 2, none⟩ = some (.slice A2 n2 c2) ∧ wq.cell? ⟨w.heap.size, 3, none⟩ = some (.int .u32 (lock : Int))) := fun wq hq => HT.out wq (SB.trans HT2.out (SB.trans (hWd ▸ SB.drew w2) hq))
  have HBd : Hid (Below w.heap.size w Wd) := HB2.out.trans (Below.mono (hWd ▸ SB.drew w2 : SB w2 Wd) HB2.out.size)
  refine wp_region_but (z := 999) (SB Wd) (by kernel_rfl) ?_
  rw [hWd]
  have hS : SB Wd Wd := SB.refl Wd
  clear hWd
  refine AnyBut.takeE (i := 0) (v := .agg #[.int .u32 (ver : Int), .slice A1 n1 c1, .slice A2 n2 c2, .int .u32 (lock : Int)]) rfl (by kernel_rfl) (by kernel_rfl) (by kernel_rfl) (by kernel_rfl) (fun _ _ _ h => h) (Or.inl ⟨by rfl, ?_⟩) hS ?_
  · intro wq hq
    obtain ⟨dq0, dq1, dq2, dq3⟩ := E0.out wq hq
    go_simp
  try simp only [Act.put, List.setIfInBounds_toArray, List.set_cons_zero, List.set_cons_succ, List.getElem_toArray, List.getElem_cons_zero, List.getElem_cons_succ]
  refine AnyBut.takeE (i := 1) (v := .agg #[.int .u32 (ver : Int), .slice A1 n1 c1, .slice A2 n2 c2, .int .u32 (lock : Int)]) rfl (by kernel_rfl) (by kernel_rfl) (by kernel_rfl) (by kernel_rfl) (fun _ _ _ h => h) (Or.inl ⟨by rfl, ?_⟩) hS ?_
  · intro wq hq
    obtain ⟨dq0, dq1, dq2, dq3⟩ := E0.out wq hq
    go_simp
  try simp only [Act.put, List.setIfInBounds_toArray, List.set_cons_zero, List.set_cons_succ, List.getElem_toArray, List.getElem_cons_zero, List.getElem_cons_succ]
  refine AnyBut.gone (i := 2) (by kernel_rfl) rfl (by rfl) (fun K hK => ?_)
  go_simp
  (with_reducible refine (K15.out _ HBd.out).mono ?_)
  rintro e w3 ⟨rfl, hb⟩
  have hS3 : SB Wd w3 := SB.next hS hb
  have HS3 := Lib.hid hS3
  have HBl3 := Lib.hid hb
  clear hb
  dsimp only
  refine hK _ _ (fun _ => hS3) ?_
  clear hK K hS
  try simp only [Act.put, List.setIfInBounds_toArray, List.set_cons_zero, List.set_cons_succ, List.getElem_toArray, List.getElem_cons_zero, List.getElem_cons_succ]
  refine AnyBut.stronger (S' := SB w3) (fun _ h => Below.trans hS3 (Below.mono h hS3.size)) ?_
  clear hS3
  have hS : SB w3 w3 := SB.refl w3
  have HB3 : Hid (Below w.heap.size w w3) := HBd.out.trans (Below.mono HS3.out HBd.out.size)
  refine AnyBut.gone (i := 3) (by kernel_rfl) rfl (by rfl) (fun K hK => ?_)
  go_simp
  (with_reducible refine (K29.out _ HB3.out).mono ?_)
  rintro e w4 ⟨v4, rfl, ho, hb⟩
  obtain ⟨A4, c4, rfl, _, _⟩ := slice_form ho
  have HO4 := Lib.hid (ho.base HB3.out.size)
  clear ho
  have hS4 : SB w3 w4 := SB.next hS hb
  have HS4 := Lib.hid hS4
  have HBl4 := Lib.hid hb
  clear hb
  dsimp only
  refine hK _ _ (fun _ => hS4) ?_
  clear hK K hS
  try simp only [Act.put, List.setIfInBounds_toArray, List.set_cons_zero, List.set_cons_succ, List.getElem_toArray, List.getElem_cons_zero, List.getElem_cons_succ]
  refine AnyBut.stronger (S' := SB w4) (fun _ h => Below.trans hS4 (Below.mono h hS4.size)) ?_
  clear hS4
  have hS : SB w4 w4 := SB.refl w4
  refine AnyBut.takeE (i := 4) (v := ?_) rfl (by kernel_rfl) (by kernel_rfl) (by kernel_rfl) (by kernel_rfl) (fun _ _ _ h => h) (Or.inl ⟨by rfl, ?_⟩) hS ?_
  rotate_left
  · (intro wq hq; go_simp; try with_reducible rfl)
  try simp only [Act.put, List.setIfInBounds_toArray, List.set_cons_zero, List.set_cons_succ, List.getElem_toArray, List.getElem_cons_zero, List.getElem_cons_succ]
  refine AnyBut.gone (i := 5) (by kernel_rfl) rfl (by rfl) (fun K hK => ?_)
  go_simp
  refine hK _ _ (fun _ => hS) ?_
  clear hK K
  refine AnyBut.done (by kernel_rfl) ?_ _
  try dsimp only [Exit.then]
  clear hS
  have HB4 : Hid (Below w.heap.size w w4) := HB3.out.trans (Below.mono HS4.out HB3.out.size)
  go_wp2_with fail
  go_ret2
  exact ⟨A4, c4, rfl, HO4.out, HB4.out⟩
set_option maxHeartbeats 4000000 in
theorem rid5_ok (t : TTx) (i o : Value) (w : World) (h : TxOk w w.heap.size t i o) (hc : chk t = 0) :
    Calls Tryd.prog 17 #[txV t i o] w (HashP (twiceB (layB t false)) w) := by
  have h' := h
  obtain ⟨⟨A1, c1, rfl, _, _, _⟩, ⟨A2, c2, rfl, _, _, _⟩, _, _⟩ := h
  obtain ⟨n1, hn1⟩ : ∃ n, n = t.ins.length := ⟨_, rfl⟩
  obtain ⟨n2, hn2⟩ : ∃ n, n = t.outs.length := ⟨_, rfl⟩
  obtain ⟨ver, hv⟩ : ∃ n, n = t.ver := ⟨_, rfl⟩
  obtain ⟨lock, hlk⟩ : ∃ n, n = t.lock := ⟨_, rfl⟩
  have hz := zero38
  have es : (w.alloc (.cells #[.int .u32 (ver : Int), .slice A1 n1 c1, .slice A2 n2 c2, .int .u32 (lock : Int)] 26)).heap.size = w.heap.size + 1 := by simp
  have hT0 := Blk.new (w.alloc (.cells #[.int .u32 (ver : Int), .slice A1 n1 c1, .slice A2 n2 c2, .int .u32 (lock : Int)] 26)) 38 (vbs Z32).toArray
  rw [es, List.toList_toArray] at hT0
  have hB0 : Below w.heap.size w ((w.alloc (.cells #[.int .u32 (ver : Int), .slice A1 n1 c1, .slice A2 n2 c2, .int .u32 (lock : Int)] 26)).alloc (.cells (vbs Z32).toArray 38)) := ((Below.refl _ _).alloc (Nat.le_refl _) _).alloc (by simp) _
  obtain ⟨d0, d1, d2, d3⟩ := tx_box (ver : Int) (lock : Int) (.slice A1 n1 c1) (.slice A2 n2 c2) w 26 ((w.alloc (.cells #[.int .u32 (ver : Int), .slice A1 n1 c1, .slice A2 n2 c2, .int .u32 (lock : Int)] 26)).alloc (.cells (vbs Z32).toArray 38)) ((Below.refl _ _).alloc (Nat.le_refl _) _)
  obtain ⟨X, hX⟩ : ∃ X, X = layB t false := ⟨_, rfl⟩
  have hXl : X.length ≤ 100000 := by rw [hX]; exact lay_len _ h' hc
  have KP : Hid (∀ wq, Below w.heap.size w wq → Calls Tryd.prog 11 #[.agg #[.int .u32 (ver : Int), .slice A1 n1 c1, .slice A2 n2 c2, .int .u32 (lock : Int)]] wq (GavePost X wq)) := fun wq hq => by
    have := rbare_ok t _ _ wq ((h'.keep hq (Nat.le_refl _)).up hq.size) hc
    unfold txV at this
    rw [← hv, ← hlk, ← hn1, ← hn2, ← hX] at this
    exact this
  obtain ⟨D, hD⟩ : ∃ D, D = twiceB X := ⟨_, rfl⟩
  rw [← hX, ← hD]
  have HDl := Lib.hid (show D.length = 32 by rw [hD]; exact sumB_len _)
  have KN : Hid (∀ (A : Option Addr) (n c : Nat) (wq : World), X.length = n → Rd wq wq.heap.size A X → n ≤ c → (A = none → c = 0) → Calls Tryd.prog 38 #[.slice A n c] wq (HashP D wq)) := fun A n c wq e r l z => by
    have := rtwice_any A c X wq r (by omega) z (by omega)
    rw [e, ← hD] at this
    exact this
  have HT := Lib.hid hT0
  have HB := Lib.hid hB0
  have es' := Lib.hid es
  unfold txV
  rw [← hv, ← hlk, ← hn1, ← hn2]
  clear h' hc hn1 hn2 hv hlk hT0 hB0 es hD hX hXl
  go_enter Tryd.func17, Tryd.ntmps17
  go_upto_region 1 with fail
  generalize (w.alloc (.cells #[.int .u32 (ver : Int), .slice A1 n1 c1, .slice A2 n2 c2, .int .u32 (lock : Int)] 26)).alloc (.cells (vbs Z32).toArray 38) = W1 at HT HB d0 d1 d2 d3 ⊢
  clear hz
  go_wp2_with (first
    | (go_at_call 11; (with_reducible refine (KP.out _ HB.out).mono ?_); rintro e w2 ⟨A4, c4, rfl, ho2, hb2⟩; obtain ⟨A5, c5, e5, hr5, hc5, _, hn5⟩ := ho2.rd; injection e5 with e6 e7 e8; subst e6 e8; have HR5 := Lib.hid hr5; have HC5 := Lib.hid hc5; have HN5 := Lib.hid hn5; have HB2 := Lib.hid hb2; clear ho2 hb2 hr5 hc5 hn5; dsimp only)
    | (go_at_call 38; (with_reducible refine (KN.out _ _ _ _ rfl HR5.out HC5.out HN5.out).mono ?_); rintro e w3 ⟨rfl, hb3⟩; have HB3 := Lib.hid hb3; have HT3 := Lib.hid ((HT.out.below HB2.out HT.out.lt).below hb3 (HT.out.below HB2.out HT.out.lt).lt); clear hb3; dsimp only)
    | (with_reducible refine wpList_store_mid rfl 38 (.tmp 2) (.tmp 14) rfl (w.heap.size + 1) 0 (vbs D).toArray rfl rfl (there_z HT3.out HDl.out) (i25v HDl.out) (all_oneCell_toArray (vbs_one _)) ?_))
  have hbq : Below w.heap.size w w3 := HB.out.trans ((HB2.out.mono HB.out.size).trans (HB3.out.mono (Nat.le_trans HB.out.size HB2.out.size)))
  have hS := HT3.out.setCells (vbs D) (by rw [vbs_len, vbs_len, HDl.out]; rfl)
  have hbb := below_setCells (B := w.heap.size) (b := w.heap.size + 1) (by omega) (vbs D) 0 w3 hbq
  generalize w3.setCells (w.heap.size + 1) 0 (vbs D) = W9 at hS hbb
  exact bodyPost_ret (v := .agg (vbs D).toArray) (results_cell_row Tryd.results17 _ W9 (w.heap.size + 1) 38 (vbs D).toArray (0, 0) _ rfl hS Tryd.underlying38 rfl (i25v HDl.out)) rfl ⟨rfl, hbb⟩
set_option maxHeartbeats 4000000 in
theorem rid5_no (t : TTx) (i o : Value) (w : World) (h : TxOk w w.heap.size t i o) (hc : chk t ≠ 0) :
    Calls Tryd.prog 17 #[txV t i o] w (HashP Z32 w) := by
  have h' := h
  obtain ⟨⟨A1, c1, rfl, _, _, _⟩, ⟨A2, c2, rfl, _, _, _⟩, _, _⟩ := h
  obtain ⟨n1, hn1⟩ : ∃ n, n = t.ins.length := ⟨_, rfl⟩
  obtain ⟨n2, hn2⟩ : ∃ n, n = t.outs.length := ⟨_, rfl⟩
  obtain ⟨ver, hv⟩ : ∃ n, n = t.ver := ⟨_, rfl⟩
  obtain ⟨lock, hlk⟩ : ∃ n, n = t.lock := ⟨_, rfl⟩
  have hz := zero38
  have es : (w.alloc (.cells #[.int .u32 (ver : Int), .slice A1 n1 c1, .slice A2 n2 c2, .int .u32 (lock : Int)] 26)).heap.size = w.heap.size + 1 := by simp
  have hT0 := Blk.new (w.alloc (.cells #[.int .u32 (ver : Int), .slice A1 n1 c1, .slice A2 n2 c2, .int .u32 (lock : Int)] 26)) 38 (vbs Z32).toArray
  rw [es, List.toList_toArray] at hT0
  have hB0 : Below w.heap.size w ((w.alloc (.cells #[.int .u32 (ver : Int), .slice A1 n1 c1, .slice A2 n2 c2, .int .u32 (lock : Int)] 26)).alloc (.cells (vbs Z32).toArray 38)) := ((Below.refl _ _).alloc (Nat.le_refl _) _).alloc (by simp) _
  obtain ⟨d0, d1, d2, d3⟩ := tx_box (ver : Int) (lock : Int) (.slice A1 n1 c1) (.slice A2 n2 c2) w 26 ((w.alloc (.cells #[.int .u32 (ver : Int), .slice A1 n1 c1, .slice A2 n2 c2, .int .u32 (lock : Int)] 26)).alloc (.cells (vbs Z32).toArray 38)) ((Below.refl _ _).alloc (Nat.le_refl _) _)
  obtain ⟨c, hcc⟩ : ∃ c, c = chk t := ⟨_, rfl⟩
  have KP : Hid (∀ wq, Below w.heap.size w wq → Calls Tryd.prog 11 #[.agg #[.int .u32 (ver : Int), .slice A1 n1 c1, .slice A2 n2 c2, .int .u32 (lock : Int)]] wq (NonePost c wq)) := fun wq hq => by
    have := rbare_no t _ _ wq ((h'.keep hq (Nat.le_refl _)).up hq.size) hc
    unfold txV at this
    rw [← hv, ← hlk, ← hn1, ← hn2, ← hcc] at this
    exact this
  obtain ⟨D, hD⟩ : ∃ D, D = Z32 := ⟨_, rfl⟩
  rw [← hD]
  have HDl := Lib.hid (show D.length = 32 by rw [hD]; rfl)
  have HDe := Lib.hid hD
  have hne : (c != 0) = true := by rw [hcc]; simpa using hc
  have HT := Lib.hid hT0
  have HB := Lib.hid hB0
  have es' := Lib.hid es
  unfold txV
  rw [← hv, ← hlk, ← hn1, ← hn2]
  clear h' hc hn1 hn2 hv hlk hT0 hB0 es hD hcc
  go_enter Tryd.func17, Tryd.ntmps17
  go_upto_region 1 with fail
  generalize (w.alloc (.cells #[.int .u32 (ver : Int), .slice A1 n1 c1, .slice A2 n2 c2, .int .u32 (lock : Int)] 26)).alloc (.cells (vbs Z32).toArray 38) = W1 at HT HB d0 d1 d2 d3 ⊢
  clear hz
  go_wp2_with (first
    | (go_at_call 11; (with_reducible refine (KP.out _ HB.out).mono ?_); rintro e w3 ⟨rfl, hb2⟩; have HB2 := Lib.hid hb2; have HT3 := Lib.hid (HT.out.below hb2 HT.out.lt); clear hb2; dsimp only)
    | (refine wpList_zero38 rfl rfl ?_; rw [← HDe.out])
    | (with_reducible refine wpList_store_mid rfl 38 (.tmp 2) (.tmp 12) rfl (w.heap.size + 1) 0 (vbs D).toArray rfl rfl (there_z HT3.out HDl.out) (i25v HDl.out) (all_oneCell_toArray (vbs_one _)) ?_))
  have hbq : Below w.heap.size w w3 := HB.out.trans (HB2.out.mono HB.out.size)
  have hS := HT3.out.setCells (vbs D) (by rw [vbs_len, vbs_len, HDl.out]; rfl)
  have hbb := below_setCells (B := w.heap.size) (b := w.heap.size + 1) (by omega) (vbs D) 0 w3 hbq
  generalize w3.setCells (w.heap.size + 1) 0 (vbs D) = W9 at hS hbb
  exact bodyPost_ret (v := .agg (vbs D).toArray) (results_cell_row Tryd.results17 _ W9 (w.heap.size + 1) 38 (vbs D).toArray (0, 0) _ rfl hS Tryd.underlying38 rfl (i25v HDl.out)) rfl ⟨rfl, hbb⟩
set_option maxHeartbeats 4000000 in
theorem rfull5_ok (t : TTx) (i o : Value) (w : World) (h : TxOk w w.heap.size t i o) (hc : chk t = 0) :
    Calls Tryd.prog 19 #[txV t i o] w (HashP (twiceB (layB t (witd t))) w) := by
  have h' := h
  obtain ⟨⟨A1, c1, rfl, _, _, _⟩, ⟨A2, c2, rfl, _, _, _⟩, _, _⟩ := h
  obtain ⟨n1, hn1⟩ : ∃ n, n = t.ins.length := ⟨_, rfl⟩
  obtain ⟨n2, hn2⟩ : ∃ n, n = t.outs.length := ⟨_, rfl⟩
  obtain ⟨ver, hv⟩ : ∃ n, n = t.ver := ⟨_, rfl⟩
  obtain ⟨lock, hlk⟩ : ∃ n, n = t.lock := ⟨_, rfl⟩
  have hz := zero38
  have es : (w.alloc (.cells #[.int .u32 (ver : Int), .slice A1 n1 c1, .slice A2 n2 c2, .int .u32 (lock : Int)] 26)).heap.size = w.heap.size + 1 := by simp
  have hT0 := Blk.new (w.alloc (.cells #[.int .u32 (ver : Int), .slice A1 n1 c1, .slice A2 n2 c2, .int .u32 (lock : Int)] 26)) 38 (vbs Z32).toArray
  rw [es, List.toList_toArray] at hT0
  have hB0 : Below w.heap.size w ((w.alloc (.cells #[.int .u32 (ver : Int), .slice A1 n1 c1, .slice A2 n2 c2, .int .u32 (lock : Int)] 26)).alloc (.cells (vbs Z32).toArray 38)) := ((Below.refl _ _).alloc (Nat.le_refl _) _).alloc (by simp) _
  obtain ⟨d0, d1, d2, d3⟩ := tx_box (ver : Int) (lock : Int) (.slice A1 n1 c1) (.slice A2 n2 c2) w 26 ((w.alloc (.cells #[.int .u32 (ver : Int), .slice A1 n1 c1, .slice A2 n2 c2, .int .u32 (lock : Int)] 26)).alloc (.cells (vbs Z32).toArray 38)) ((Below.refl _ _).alloc (Nat.le_refl _) _)
  obtain ⟨X, hX⟩ : ∃ X, X = layB t (witd t) := ⟨_, rfl⟩
  have hXl : X.length ≤ 100000 := by rw [hX]; exact lay_len _ h' hc
  have KP : Hid (∀ wq, Below w.heap.size w wq → Calls Tryd.prog 9 #[.agg #[.int .u32 (ver : Int), .slice A1 n1 c1, .slice A2 n2 c2, .int .u32 (lock : Int)]] wq (GavePost X wq)) := fun wq hq => by
    have := rput_ok5 t _ _ wq ((h'.keep hq (Nat.le_refl _)).up hq.size) hc
    unfold txV at this
    rw [← hv, ← hlk, ← hn1, ← hn2, ← hX] at this
    exact this
  obtain ⟨D, hD⟩ : ∃ D, D = twiceB X := ⟨_, rfl⟩
  rw [← hX, ← hD]
  have HDl := Lib.hid (show D.length = 32 by rw [hD]; exact sumB_len _)
  have KN : Hid (∀ (A : Option Addr) (n c : Nat) (wq : World), X.length = n → Rd wq wq.heap.size A X → n ≤ c → (A = none → c = 0) → Calls Tryd.prog 38 #[.slice A n c] wq (HashP D wq)) := fun A n c wq e r l z => by
    have := rtwice_any A c X wq r (by omega) z (by omega)
    rw [e, ← hD] at this
    exact this
  have HT := Lib.hid hT0
  have HB := Lib.hid hB0
  have es' := Lib.hid es
  unfold txV
  rw [← hv, ← hlk, ← hn1, ← hn2]
  clear h' hc hn1 hn2 hv hlk hT0 hB0 es hD hX hXl
  go_enter Tryd.func19, Tryd.ntmps19
  go_upto_region 1 with fail
  generalize (w.alloc (.cells #[.int .u32 (ver : Int), .slice A1 n1 c1, .slice A2 n2 c2, .int .u32 (lock : Int)] 26)).alloc (.cells (vbs Z32).toArray 38) = W1 at HT HB d0 d1 d2 d3 ⊢
  clear hz
  go_wp2_with (first
    | (go_at_call 9; (with_reducible refine (KP.out _ HB.out).mono ?_); rintro e w2 ⟨A4, c4, rfl, ho2, hb2⟩; obtain ⟨A5, c5, e5, hr5, hc5, _, hn5⟩ := ho2.rd; injection e5 with e6 e7 e8; subst e6 e8; have HR5 := Lib.hid hr5; have HC5 := Lib.hid hc5; have HN5 := Lib.hid hn5; have HB2 := Lib.hid hb2; clear ho2 hb2 hr5 hc5 hn5; dsimp only)
    | (go_at_call 38; (with_reducible refine (KN.out _ _ _ _ rfl HR5.out HC5.out HN5.out).mono ?_); rintro e w3 ⟨rfl, hb3⟩; have HB3 := Lib.hid hb3; have HT3 := Lib.hid ((HT.out.below HB2.out HT.out.lt).below hb3 (HT.out.below HB2.out HT.out.lt).lt); clear hb3; dsimp only)
    | (with_reducible refine wpList_store_mid rfl 38 (.tmp 2) (.tmp 14) rfl (w.heap.size + 1) 0 (vbs D).toArray rfl rfl (there_z HT3.out HDl.out) (i25v HDl.out) (all_oneCell_toArray (vbs_one _)) ?_))
  have hbq : Below w.heap.size w w3 := HB.out.trans ((HB2.out.mono HB.out.size).trans (HB3.out.mono (Nat.le_trans HB.out.size HB2.out.size)))
  have hS := HT3.out.setCells (vbs D) (by rw [vbs_len, vbs_len, HDl.out]; rfl)
  have hbb := below_setCells (B := w.heap.size) (b := w.heap.size + 1) (by omega) (vbs D) 0 w3 hbq
  generalize w3.setCells (w.heap.size + 1) 0 (vbs D) = W9 at hS hbb
  exact bodyPost_ret (v := .agg (vbs D).toArray) (results_cell_row Tryd.results19 _ W9 (w.heap.size + 1) 38 (vbs D).toArray (0, 0) _ rfl hS Tryd.underlying38 rfl (i25v HDl.out)) rfl ⟨rfl, hbb⟩
set_option maxHeartbeats 4000000 in
theorem rfull5_no (t : TTx) (i o : Value) (w : World) (h : TxOk w w.heap.size t i o) (hc : chk t ≠ 0) :
    Calls Tryd.prog 19 #[txV t i o] w (HashP Z32 w) := by
  have h' := h
  obtain ⟨⟨A1, c1, rfl, _, _, _⟩, ⟨A2, c2, rfl, _, _, _⟩, _, _⟩ := h
  obtain ⟨n1, hn1⟩ : ∃ n, n = t.ins.length := ⟨_, rfl⟩
  obtain ⟨n2, hn2⟩ : ∃ n, n = t.outs.length := ⟨_, rfl⟩
  obtain ⟨ver, hv⟩ : ∃ n, n = t.ver := ⟨_, rfl⟩
  obtain ⟨lock, hlk⟩ : ∃ n, n = t.lock := ⟨_, rfl⟩
  have hz := zero38
  have es : (w.alloc (.cells #[.int .u32 (ver : Int), .slice A1 n1 c1, .slice A2 n2 c2, .int .u32 (lock : Int)] 26)).heap.size = w.heap.size + 1 := by simp
  have hT0 := Blk.new (w.alloc (.cells #[.int .u32 (ver : Int), .slice A1 n1 c1, .slice A2 n2 c2, .int .u32 (lock : Int)] 26)) 38 (vbs Z32).toArray
  rw [es, List.toList_toArray] at hT0
  have hB0 : Below w.heap.size w ((w.alloc (.cells #[.int .u32 (ver : Int), .slice A1 n1 c1, .slice A2 n2 c2, .int .u32 (lock : Int)] 26)).alloc (.cells (vbs Z32).toArray 38)) := ((Below.refl _ _).alloc (Nat.le_refl _) _).alloc (by simp) _
  obtain ⟨d0, d1, d2, d3⟩ := tx_box (ver : Int) (lock : Int) (.slice A1 n1 c1) (.slice A2 n2 c2) w 26 ((w.alloc (.cells #[.int .u32 (ver : Int), .slice A1 n1 c1, .slice A2 n2 c2, .int .u32 (lock : Int)] 26)).alloc (.cells (vbs Z32).toArray 38)) ((Below.refl _ _).alloc (Nat.le_refl _) _)
  obtain ⟨c, hcc⟩ : ∃ c, c = chk t := ⟨_, rfl⟩
  have KP : Hid (∀ wq, Below w.heap.size w wq → Calls Tryd.prog 9 #[.agg #[.int .u32 (ver : Int), .slice A1 n1 c1, .slice A2 n2 c2, .int .u32 (lock : Int)]] wq (NonePost c wq)) := fun wq hq => by
    have := rput_no5 t _ _ wq ((h'.keep hq (Nat.le_refl _)).up hq.size) hc
    unfold txV at this
    rw [← hv, ← hlk, ← hn1, ← hn2, ← hcc] at this
    exact this
  obtain ⟨D, hD⟩ : ∃ D, D = Z32 := ⟨_, rfl⟩
  rw [← hD]
  have HDl := Lib.hid (show D.length = 32 by rw [hD]; rfl)
  have HDe := Lib.hid hD
  have hne : (c != 0) = true := by rw [hcc]; simpa using hc
  have HT := Lib.hid hT0
  have HB := Lib.hid hB0
  have es' := Lib.hid es
  unfold txV
  rw [← hv, ← hlk, ← hn1, ← hn2]
  clear h' hc hn1 hn2 hv hlk hT0 hB0 es hD hcc
  go_enter Tryd.func19, Tryd.ntmps19
  go_upto_region 1 with fail
  generalize (w.alloc (.cells #[.int .u32 (ver : Int), .slice A1 n1 c1, .slice A2 n2 c2, .int .u32 (lock : Int)] 26)).alloc (.cells (vbs Z32).toArray 38) = W1 at HT HB d0 d1 d2 d3 ⊢
  clear hz
  go_wp2_with (first
    | (go_at_call 9; (with_reducible refine (KP.out _ HB.out).mono ?_); rintro e w3 ⟨rfl, hb2⟩; have HB2 := Lib.hid hb2; have HT3 := Lib.hid (HT.out.below hb2 HT.out.lt); clear hb2; dsimp only)
    | (refine wpList_zero38 rfl rfl ?_; rw [← HDe.out])
    | (with_reducible refine wpList_store_mid rfl 38 (.tmp 2) (.tmp 12) rfl (w.heap.size + 1) 0 (vbs D).toArray rfl rfl (there_z HT3.out HDl.out) (i25v HDl.out) (all_oneCell_toArray (vbs_one _)) ?_))
  have hbq : Below w.heap.size w w3 := HB.out.trans (HB2.out.mono HB.out.size)
  have hS := HT3.out.setCells (vbs D) (by rw [vbs_len, vbs_len, HDl.out]; rfl)
  have hbb := below_setCells (B := w.heap.size) (b := w.heap.size + 1) (by omega) (vbs D) 0 w3 hbq
  generalize w3.setCells (w.heap.size + 1) 0 (vbs D) = W9 at hS hbb
  exact bodyPost_ret (v := .agg (vbs D).toArray) (results_cell_row Tryd.results19 _ W9 (w.heap.size + 1) 38 (vbs D).toArray (0, 0) _ rfl hS Tryd.underlying38 rfl (i25v HDl.out)) rfl ⟨rfl, hbb⟩
end Go.Proofs.YtnkkhmgplpkjbaaDoor
