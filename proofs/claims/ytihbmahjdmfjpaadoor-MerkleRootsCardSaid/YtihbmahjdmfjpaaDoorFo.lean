/- What merkle.Texts returns. -/
import Derived.Test.YtihbmahjdmfjpaaDoorFm
import Derived.Outline
import Derived.StillTailTactics
namespace Go.Proofs.YtihbmahjdmfjpaaDoor
open Go.RowKit
set_option linter.unusedVariables false
set_option linter.unusedSimpArgs false
set_option maxRecDepth 100000
attribute [local go_sem] Oper.semAt_some
variable {tw : List (BitVec 8) → List (BitVec 8)}
/-- A row of slices of the call's own, each of a text in a block of its own. -/
def OT (w : World) (B : Nat) (v : Value) (Ts : List (List (BitVec 8))) : Prop :=
  LenN 64 Ts ∧ ∃ gs : List Nat, gs.length = Ts.length ∧ w.ownsRow B 54 1 v Ts.length (gs.map fun g => Value.slice (some ⟨g, 0, none⟩) 64 64) ∧ ∀ j, j < Ts.length → B ≤ gs.getD j 0 ∧ Blk w (gs.getD j 0) 57 (vbs (Ts.getD j []))
theorem OT.nil (w : World) (B : Nat) : OT w B (.slice none 0 0) [] := ⟨(fun x hx => by cases hx), [], rfl, World.ownsRow_nil w B 54 1, fun j hj => absurd hj (Nat.not_lt_zero j)⟩
theorem OT.lt {w : World} {B : Nat} {v : Value} {Ts : List (List (BitVec 8))} (h : OT w B v Ts) {g : Nat} (hg : v.ownBlock = some g) : g < w.heap.size ∧ B ≤ g ∧ ∃ cur m, w.heap[g]? = some (.cells cur 54 m) := by
  obtain ⟨_, gs, _, ho, _⟩ := h
  rcases ho.2 with ⟨rfl, _⟩ | ⟨g', cap, cur, rfl, hb, hg', r⟩
  · cases hg
  · cases hg
    exact ⟨(Array.getElem?_eq_some_iff.1 hg').1, hb, cur, _, hg'⟩
/-- It stays where its blocks do. -/
theorem OT.same {w w' : World} {B : Nat} {v : Value} {Ts : List (List (BitVec 8))} (h : OT w B v Ts) (hk : ∀ (b : Nat) (cs : Array Value) (T : TypeId) (m : Nat × Nat), w.heap[b]? = some (.cells cs T m) → T = 54 ∨ T = 57 → w'.heap[b]? = some (.cells cs T m)) : OT w' B v Ts := by
  obtain ⟨h1, gs, hl, ho, hb⟩ := h
  refine ⟨h1, gs, hl, ⟨ho.1, ?_⟩, fun j hj => ⟨(hb j hj).1, hk _ _ _ _ (hb j hj).2 (.inr rfl)⟩⟩
  rcases ho.2 with hn | ⟨g, cap, cur, rfl, hbb, hg, r⟩
  · exact .inl hn
  · exact .inr ⟨g, cap, cur, rfl, hbb, hk _ _ _ _ hg (.inl rfl), r⟩
theorem OT.below {w w' : World} {B : Nat} {v : Value} {Ts : List (List (BitVec 8))} (h : OT w B v Ts) (hb : Below w.heap.size w w') : OT w' B v Ts :=
  h.same fun b cs T m hc _ => (hb.block b (Array.getElem?_eq_some_iff.1 hc).1).trans hc
theorem OT.own {W W' : World} {B : Nat} {v : Value} {Ts : List (List (BitVec 8))} {row : Option Nat} (h : OT W B v Ts) (hg : W.grownBy W' row) (hr : ∀ r, row = some r → ∃ o : Obj, W.heap[r]? = some o ∧ o.isCells = false) : OT W' B v Ts :=
  h.same fun b cs T m hc _ => (hg.block b (Array.getElem?_eq_some_iff.1 hc).1 (fun e => by
    obtain ⟨o, ho, hn⟩ := hr b e.symm
    rw [hc] at ho; cases ho; cases hn)).trans hc
theorem OT.aside {w : World} {B c T : Nat} {v x : Value} {vs : List Value} {Ts : List (List (BitVec 8))} (h : OT w B v Ts) (hb : Blk w c T vs) (hT : T ≠ 54 ∧ T ≠ 57) (o : Nat) : OT (w.setCell ⟨c, o, none⟩ x) B v Ts :=
  h.same fun b cs T' m hc hT' => by
    rw [Below.heap_setCell w ⟨c, o, none⟩ x b (fun e => ?_)]
    · exact hc
    · have e2 : b = c := e
      rw [e2, show w.heap[c]? = _ from hb] at hc; cases hc
      rcases hT' with rfl | rfl
      · exact hT.1 rfl
      · exact hT.2 rfl
theorem info54 : (Tryd.prog.info? 54).map (fun i => (i.zero, i.size, i.bytes)) = some (some (.slice none 0 0), 1, 24) := by kernel_rfl
/-- Behind an append of one more text. -/
theorem run_appT {w : World} {B : Nat} {v : Value} {Ts : List (List (BitVec 8))} (h : OT w B v Ts) {g gt : Nat} {x : List (BitVec 8)} (hx : x.length = 64) (hg : Blk w g 54 [.slice (some ⟨gt, 0, none⟩) 64 64]) (hgt : Blk w gt 57 (vbs x)) (hBt : B ≤ gt) (hl : Ts.length ≤ 1000000) (hB : B ≤ w.heap.size) {c : Nat} :
    ∃ v' w', (Builtin.append_ #[29, 29] 29 #[v, .slice (some ⟨g, 0, none⟩) 1 c]).run Tryd.prog w = .ok v' w' ∧ OT w' B v' (Ts ++ [x]) ∧ w.grownBy w' v.ownBlock := by
  have hlt := fun g => h.lt (g := g)
  obtain ⟨h1, gs, hgl, ho, hb⟩ := h
  obtain ⟨i0, hi, hz0, hz1, hz2⟩ := info_parts info54
  obtain ⟨v', w', hr, ho', hgr, _⟩ := run_append_own (P := Tryd.prog) w B 29 29 54 i0 (.slice none 0 0) 1 24 Tryd.underlying29 hi hz0 hz1 hz2 rfl (by omega) v Ts.length _ ho ⟨g, 0, none⟩ 1 c [.slice (some ⟨gt, 0, none⟩) 64 64] (by simp) (fun j u hj => by rw [Addr.add_mid, Nat.zero_add]; exact hg.cell hj) (by intro u hu; simp at hu; subst hu; rfl) (by unfold maxLen; omega) (by omega) hB
  have keep : ∀ b vs, Blk w b 57 vs → Blk w' b 57 vs := fun b vs hbk => hbk.grown hgr (fun e => by
    obtain ⟨_, _, cur, m, hc⟩ := hlt b e.symm
    rw [show w.heap[b]? = _ from hbk] at hc; cases hc)
  refine ⟨v', w', hr, ⟨h1.app (.one hx), gs ++ [gt], by simp [hgl], ?_, fun j hj => ?_⟩, hgr⟩
  · have e1 : (Ts ++ [x]).length = Ts.length + 1 := by simp
    rw [e1, List.map_append]
    exact ho'
  · rw [List.length_append, List.length_singleton] at hj
    rcases Nat.lt_or_ge j Ts.length with h | h
    · have e1 : (gs ++ [gt]).getD j 0 = gs.getD j 0 := by simp [List.getD, List.getElem?_append_left (show j < gs.length by omega)]
      have e2 : (Ts ++ [x]).getD j [] = Ts.getD j [] := by simp [List.getD, List.getElem?_append_left h]
      rw [e1, e2]
      exact ⟨(hb j h).1, keep _ _ (hb j h).2⟩
    · obtain rfl : j = Ts.length := by omega
      have e1 : (gs ++ [gt]).getD Ts.length 0 = gt := by simp [List.getD, ← hgl]
      have e2 : (Ts ++ [x]).getD Ts.length [] = x := by simp [List.getD]
      rw [e1, e2]
      exact ⟨hBt, keep _ _ hgt⟩
theorem wp_appT {w : World} {o : Oper} {a : Act} {K : Act → World → Prop} {Q : Exit → Act → World → Prop} (d y : Operand) (hop : o.op = .call { callee := .builtin .append, args := #[d, y], argTypes := #[29, 29] }) (hty : o.type = 29)
    (B : Nat) (v : Value) (Ts : List (List (BitVec 8))) (hd : a.eval d = v) (h : OT w B v Ts) (g gt c : Nat) (x : List (BitVec 8)) (hy : a.eval y = .slice (some ⟨g, 0, none⟩) 1 c) (hx : x.length = 64) (hg : Blk w g 54 [.slice (some ⟨gt, 0, none⟩) 64 64]) (hgt : Blk w gt 57 (vbs x)) (hBt : B ≤ gt) (hl : Ts.length ≤ 1000000) (hB : B ≤ w.heap.size)
    (hk : ∀ v' w', OT w' B v' (Ts ++ [x]) → w.grownBy w' v.ownBlock → K (a.put o.dst v') w') : o.wp Tryd.prog a w K Q := by
  obtain ⟨v', w', hr, h2, h3⟩ := run_appT (c := c) h hx hg hgt hBt hl hB
  rw [← hty] at hr
  unfold Oper.wp execOp
  simp only [hop, resolve, invoke, builtin, Sem.run_bind, Sem.run_pure, Result.andThen_ok, List.map_toArray, List.map_cons, List.map_nil, hd, hy]
  rw [hty] at hr ⊢
  simp only [hr]
  exact hk v' w' h2 h3
theorem OT.form {w : World} {B : Nat} {v : Value} {Ts : List (List (BitVec 8))} (h : OT w B v Ts) : ∃ A c, v = .slice A Ts.length c := by
  obtain ⟨_, gs, _, ho, _⟩ := h
  rcases ho.2 with ⟨rfl, h0⟩ | ⟨g, cap, cur, rfl, _⟩
  · exact ⟨none, 0, by rw [h0]⟩
  · exact ⟨_, _, rfl⟩
theorem OT.keeps {W W' : World} {B : Nat} {v : Value} {Ts : List (List (BitVec 8))} (h : OT W B v Ts) (hg : W.grownBy W' v.ownBlock) : KeepsOthers W W' := .of_grownBy hg fun j o hj ho => by
  obtain ⟨_, _, cur, m, hc⟩ := h.lt hj
  rw [hc] at ho; cases ho; rfl
/-- The texts of the first k rows. -/
def textsK (tw : List (BitVec 8) → List (BitVec 8)) (L : List (List (BitVec 8))) : Nat → List (List (BitVec 8))
  | 0 => []
  | k + 1 => textsK tw L k ++ pairsT (rowN tw L k)
def textsT (tw : List (BitVec 8) → List (BitVec 8)) (L : List (List (BitVec 8))) : List (List (BitVec 8)) := textsK tw L (nrow L.length)
/-- Between two rounds of Texts. -/
structure TeI (tw : List (BitVec 8) → List (BitVec 8)) (L : List (List (BitVec 8))) (w : World) (k : Nat) (W : World) : Prop where
  o : ∃ v, Blk W w.heap.size 29 [v] ∧ OT W w.heap.size v (textsK tw L k)
  b : Below w.heap.size w W
  s : w.heap.size < W.heap.size
theorem TeI.own (tw : List (BitVec 8) → List (BitVec 8)) (L : List (List (BitVec 8))) (w : World) (B : Nat) (hB : w.heap.size ≤ B) : OwnFrom B (TeI tw L w) := fun k W W' row h hg hr =>
  ⟨by obtain ⟨v, h1, h2⟩ := h.o; exact ⟨v, own_blk h1 hg (fun r e => (hr r e).2), h2.own hg (fun r e => (hr r e).2)⟩, h.b.grown hg h.b.size (fun k e => Nat.le_trans hB (hr k e).1), Nat.lt_of_lt_of_le h.s hg.size⟩
def TPost (Ts : List (List (BitVec 8))) (w : World) (e : Ending) (w' : World) : Prop := ∃ v, e = .returned v ∧ OT w' w.heap.size v Ts ∧ Below w.heap.size w w'
theorem textsK_le (tw : List (BitVec 8) → List (BitVec 8)) (L : List (List (BitVec 8))) : ∀ k, (textsK tw L k).length + 2 * lenN L.length k ≤ 2 * L.length
  | 0 => by show 0 + 2 * L.length ≤ _; omega
  | k + 1 => by
    have ih := textsK_le tw L k
    show (textsK tw L k ++ pairsT (rowN tw L k)).length + 2 * upn (lenN L.length k) ≤ _
    rw [List.length_append, pairsT_len, rowN_len]
    unfold upn
    split <;> omega
theorem keepsO_below {W W' : World} (h : Below W.heap.size W W') : KeepsOthers W W' := .of_grownBy (below_grown h) (fun j o e => by cases e)
theorem kpG_of {W W' : World} (h : KpT [57] W W') (hk : KeepsOthers W W') {w : World} (hG : Glob w) (hb : Below w.heap.size w W') : KpG W W' := ⟨h, fun _ => hG.below hb, hk.size⟩
theorem wpIn_calmB {F : Fence} {n : Nat} {P : Program} {c : Code} {id : Nat} {K : Act → World → Prop} {Q' : Exit → Act → World → Prop} {a : Act} {w : World}
    (h : c.wpIn F n P (Exit.inBlock id (Exit.then K fun _ _ _ => False)) a w) : c.wpIn F n P (Exit.inBlock id (Exit.then K Q')) a w := by
  refine wpIn_mono h ?_
  intro e a w q
  cases e with
  | normal => exact q
  | exit i =>
    unfold Exit.inBlock at q ⊢
    dsimp only at q ⊢
    split at q
    · rename_i h; rw [if_pos h]; exact q
    · exact q.elim
  | ret => exact q.elim
  | goto t => exact q.elim
  | panic c => exact q.elim
  | outgrown => exact q.elim
theorem sl57_row (b : Nat) (w : World) : (Instr.sliceAt 57 (.pointer (some ⟨b, 0, none⟩)) none none none).run Tryd.prog w = .ok (.slice (some ⟨b, 0, none⟩) 64 64) w := sl57_all b 0 w
def SX (g : Nat) (v : Value) (wq : World) : Prop := wq.cell? ⟨g, 0, none⟩ = some v
/-- Between two rounds of the inner loop of Texts. -/
def TeR (tw : List (BitVec 8) → List (BitVec 8)) (L : List (List (BitVec 8))) (w W : World) (k n2 : Nat) (iv : Value) (wr : World) : Prop :=
  ∃ (j : Nat) (v : Value), j ≤ n2 ∧ iv = .int .i64 (j : Int) ∧ Blk wr w.heap.size 29 [v] ∧ OT wr w.heap.size v (textsK tw L k ++ (pairsT (rowN tw L k)).take j) ∧ Below w.heap.size w wr ∧ KeepsOthers W wr ∧ KpT [57] W wr ∧ w.heap.size < wr.heap.size
set_option maxHeartbeats 4000000 in
theorem texts_any (T : TwC tw) (A : Option Addr) (n c : Nat) (L : List (List (BitVec 8))) (w : World) (hR : RdN 32 w A n c L) (hG : Glob w) (hn : n ≤ 100000) :
    Calls Tryd.prog 14 #[.slice A n c] w (TPost (textsT tw L) w) := by
  refine (callsIn_wide (n := 1)).1 (callsIn_of_wp_marks Tryd.func14 rfl trivial (wpIn_wide.2 ?_) rfl)
  simp only [Tryd.ntmps14, List.size_toArray, List.length_cons, List.length_nil, Nat.reduceAdd, Nat.reduceSub, Array.replicate_succ, Array.replicate_zero, List.push_toArray, List.append_toArray, List.nil_append, List.cons_append]
  have HN := Lib.hid hR.num
  have HR := Lib.hid hR
  have HG := Lib.hid hG
  have HT := Lib.hid T
  clear hR hG T
  go_wp2_with (go_at_call 32; (with_reducible refine (rows_val _ _ _ _).mono ?_); rintro e w' ⟨rfl, rfl⟩; dsimp only)
  rw [World.size_alloc]
  have hbel : Below w.heap.size w ((w.alloc (.cells #[.slice none 0 0] 29)).alloc (.cells #[.slice A n c] 22)) := ((Below.refl _ _).alloc (Nat.le_refl _) _).alloc (by simp) _
  have b0 : Blk ((w.alloc (.cells #[.slice none 0 0] 29)).alloc (.cells #[.slice A n c] 22)) w.heap.size 29 [.slice none 0 0] := (Blk.new w 29 #[.slice none 0 0]).alloc _
  have b2 : Blk ((w.alloc (.cells #[.slice none 0 0] 29)).alloc (.cells #[.slice A n c] 22)) (w.heap.size + 1) 22 [.slice A n c] := by
    have := Blk.new (w.alloc (.cells #[.slice none 0 0] 29)) 22 #[.slice A n c]
    simpa using this
  generalize ((w.alloc (.cells #[.slice none 0 0] 29)).alloc (.cells #[.slice A n c] 22)) = W0 at hbel b0 b2 ⊢
  have hsz := b0.lt
  refine wp_range (gf := 45) (lb := #[.pointer (some ⟨w.heap.size + 1, 0, none⟩)]) rfl (enters_of Tryd.func45 (by kernel_rfl) rfl)
    (rows_seq HT.out A n c _ L W0 b2 (HR.out.below hbel) (HG.out.below hbel) hn w.heap.size (HR.out.far (by omega) _)) KpG.trans KpG.putObj (Below.refl _ _) (fun k vs W h => by obtain ⟨_, _, _, _, _, _, e, _⟩ := h; rw [e]; rfl)
    (fun k vs W l o o' h hl ho => by
      obtain ⟨A1, n1, c1, A2, n2, c2, e, h1, h2, h3⟩ := h
      exact ⟨A1, n1, c1, A2, n2, c2, e, h1.own (grownBy_putObj' W l o') (fun r e => by cases e; exact ⟨o, hl, ho⟩), h2.own (grownBy_putObj' W l o') (fun r e => by cases e; exact ⟨o, hl, ho⟩), h3⟩)
    (TeI tw L w) (fun _ _ _ => False) (TeI.own tw L w _ hbel.size) (fun c k W W' row h _ _ => h) ⟨⟨_, b0, OT.nil _ _⟩, hbel, hsz⟩
    (fun vs => { tmps := #[.slice A n c, undef, .slice none 0 0, .pointer (some ⟨w.heap.size, 0, none⟩), undef, vs.getD 1 undef, undef, undef, .slice A n c, .func (.func 45) #[] #[.pointer (some ⟨w.heap.size + 1, 0, none⟩)], vs.getD 0 undef, vs.getD 1 undef, undef, undef, undef, undef, undef, undef, undef, undef, undef, undef, undef, undef], defers := [] }) ?assign ?body ?done ?stop
  case assign =>
    intro l k vs W K hvs hK
    obtain ⟨A1, n1, c1, A2, n2, c2, rfl, h1, h2, h3⟩ := hvs
    gi_wp2
    exact hK
  case body =>
    rintro l k vs W hI hk ⟨A1, n1, c1, A2, n2, c2, rfl, h1, h2, h3⟩
    have hn2 : n2 = (pairsT (rowN tw L k)).length := by
      obtain ⟨_, _, e, _⟩ := h2.rd; cases e; rfl
    have hg0 : (#[Value.slice A1 n1 c1, .slice A2 n2 c2] : Array Value).getD 0 undef = .slice A1 n1 c1 := rfl
    have hg1 : (#[Value.slice A1 n1 c1, .slice A2 n2 c2] : Array Value).getD 1 undef = .slice A2 n2 c2 := rfl
    rw [hg0, hg1]
    have hTk := textsK_le tw L k
    have hpl : (pairsT (rowN tw L k)).length ≤ 100000 := by
      rw [pairsT_len, rowN_len]
      have := lenN_le L.length k
      have := HN.out
      unfold upn; split <;> omega
    have HI := Lib.hid hI
    have H2 := Lib.hid h2
    have Hn2 := Lib.hid hn2
    have HTk : Hid ((textsK tw L k).length ≤ 200000) := show (textsK tw L k).length ≤ 200000 by have := HN.out; omega
    have hn2' : n2 ≤ 100000 := by omega
    clear hg0 hg1 hI h1 h2 h3 b0 b2 hbel hn2 hTk hpl
    refine wpIn_block ?_
    gi_wp2
    gi_loopw [14] (fun iv wr => TeR tw L w W k n2 iv wr) (fun iv _ => (n2 - intOf iv).toNat)
    case atStart =>
      obtain ⟨v, h1, h2⟩ := HI.out.o
      exact ⟨0, v, Nat.zero_le _, rfl, h1, by rw [List.take_zero, List.append_nil]; exact h2, HI.out.b, KeepsOthers.refl _, fun _ _ _ _ h _ => h, HI.out.s⟩
    case round =>
      obtain ⟨j, v, hj, rfl, hb0, ho, hbw, hko, hkt, hs0⟩ := hrel
      have o2 : OF 57 64 wr 0 (.slice A2 n2 c2) (pairsT (rowN tw L k)) := H2.out.same fun g hg => by
        obtain ⟨_, _, cur, m, hc⟩ := H2.out.lt hg
        rw [hc]; exact hkt g cur 57 m hc (by simp)
      have HB0 := Lib.hid hb0
      have HO := Lib.hid ho
      have HBw := Lib.hid hbw
      have HKo := Lib.hid hko
      have HKt := Lib.hid hkt
      have O2 := Lib.hid o2
      clear hb0 ho hbw hko hkt o2
      by_cases hlt : j < n2
      · have hlt' : (j : Int) < (n2 : Int) := by omega
        obtain ⟨A3, c3, e3, hr3⟩ := O2.out.rdN
        obtain ⟨rfl, _, rfl⟩ : A2 = A3 ∧ n2 = (pairsT (rowN tw L k)).length ∧ c2 = c3 := by simpa using e3
        rw [← Hn2.out] at hr3
        obtain ⟨b, o, rfl, hb, hpk⟩ := hr3.pick (by omega) (by omega)
        obtain ⟨X, hX⟩ : ∃ X, X = (pairsT (rowN tw L k)).getD j [] := ⟨_, rfl⟩
        have HX := Lib.hid hX
        have RX := Lib.hid (hpk j hlt).1
        have HXl := Lib.hid (hpk j hlt).2
        rw [← hX] at RX HXl
        have IX := Lib.hid (i57 (vs := vbs X) (by rw [vbs_len]; exact HXl.out))
        have IA := Lib.hid (i57a HXl.out)
        have hz := zero57
        have KT := Lib.hid (there_newT wr 57 (Z := Zt64) (X := X) (by rw [HXl.out]; rfl))
        clear hX hr3 hpk
        gi_wp2_with (first
          | ((with_reducible show wpListIn _ _ _ _ _ ((⟨some 17, _, _, _, _, _⟩ : Oper) :: _) _ _); refine wpListIn_load_mid rfl 57 (.tmp 16) rfl b (o + j * 64) rfl (vbs X) _ RX.out Tryd.underlying57 rfl IX.out ?_)
          | ((with_reducible show wpListIn _ _ _ _ _ ((⟨none, _, _, _, _, _⟩ : Oper) :: _) _ _); refine wpListIn_store_mid rfl 57 (.tmp 7) (.tmp 17) rfl wr.heap.size 0 (vbs X).toArray rfl rfl KT.out IA.out (all_oneCell_toArray (vbs_one _)) ?_))
        have g1 := blk_laidT wr 57 (Z := Zt64) (X := X) (by rw [HXl.out]; rfl)
        have gb := below_laidT wr 57 Zt64 X
        have hgx : wr.heap.size < ((wr.alloc (.cells (vbs Zt64).toArray 57)).setCells wr.heap.size 0 (vbs X)).heap.size := g1.lt
        generalize ((wr.alloc (.cells (vbs Zt64).toArray 57)).setCells wr.heap.size 0 (vbs X)) = W1 at g1 gb hgx ⊢
        have G1 := Lib.hid g1
        have HO1 := Lib.hid (HO.out.below gb)
        have B1 := Lib.hid (HB0.out.below gb HB0.out.lt)
        have BW1 := Lib.hid (HBw.out.trans (gb.mono HBw.out.size))
        have KO1 := Lib.hid (HKo.out.trans (keepsO_below gb))
        have KT1 := Lib.hid (HKt.out.trans (KpT.below gb))
        have hs1 := gb.size
        have hTl : (textsK tw L k ++ (pairsT (rowN tw L k)).take j).length ≤ 1000000 := by
          rw [List.length_append, List.length_take]
          have := HTk.out
          omega
        have HTl := Lib.hid hTl
        have sl := sl57_row
        clear g1 gb hz KT RX IX IA hTl
        refine wpIn_calmB ?_
        refine wpIn_region_to (z := 3) (SX w.heap.size v) (by kernel_rfl) (by kernel_rfl) (fun ⟨_, _, h⟩ => h) ?_
        have hS : (SX w.heap.size v) W1.drew := (B1.out.cell rfl)
        refine AnyTo.take (i := 0) (v := v) rfl (by kernel_rfl) (by kernel_rfl) (by kernel_rfl) (by kernel_rfl) (by kernel_rfl) (fun _ _ _ h => h) (Or.inl ⟨by rfl, ?_⟩) hS ?_
        · (intro wq hq; have h1 : wq.cell? ⟨w.heap.size, 0, none⟩ = some v := hq; go_simp)
        try simp only [Act.put, List.setIfInBounds_toArray, List.set_cons_zero, List.set_cons_succ, List.getElem_toArray, List.getElem_cons_zero, List.getElem_cons_succ]
        refine AnyTo.take (i := 1) (v := ?_) rfl (by kernel_rfl) (by kernel_rfl) (by kernel_rfl) (by kernel_rfl) (by kernel_rfl) (fun _ _ _ h => h) (Or.inl ⟨by rfl, ?_⟩) hS ?_
        rotate_left
        · (intro wq hq; go_simp; try with_reducible rfl)
        try simp only [Act.put, List.setIfInBounds_toArray, List.set_cons_zero, List.set_cons_succ, List.getElem_toArray, List.getElem_cons_zero, List.getElem_cons_succ]
        refine AnyTo.gone (i := 2) (by kernel_rfl) rfl (by rfl) (fun K hK => ?_)
        go_simp
        have b2 : Below W1.heap.size W1 (W1.alloc (.cells #[.slice (some ⟨wr.heap.size, 0, none⟩) 64 64] 54)).drew := ((Below.refl _ _).alloc (Nat.le_refl _) _).drew
        have g2 : Blk (W1.alloc (.cells #[.slice (some ⟨wr.heap.size, 0, none⟩) 64 64] 54)).drew W1.heap.size 54 [.slice (some ⟨wr.heap.size, 0, none⟩) 64 64] := Blk.new W1 54 #[.slice (some ⟨wr.heap.size, 0, none⟩) 64 64]
        generalize (W1.alloc (.cells #[.slice (some ⟨wr.heap.size, 0, none⟩) 64 64] 54)).drew = W2 at b2 g2 ⊢
        have B2 := Lib.hid (B1.out.below b2 B1.out.lt)
        have hS2 : SX w.heap.size v W2 := B2.out.cell rfl
        have G2 := Lib.hid g2
        have GX := Lib.hid (G1.out.below b2 hgx)
        have HO2 := Lib.hid (HO1.out.below b2)
        have HB2 := Lib.hid b2
        clear hS b2 g2
        refine hK _ _ (fun _ => hS2) ?_
        clear hK K
        try simp only [Act.put, List.setIfInBounds_toArray, List.set_cons_zero, List.set_cons_succ, List.getElem_toArray, List.getElem_cons_zero, List.getElem_cons_succ]
        refine AnyTo.gone (i := 3) (by kernel_rfl) rfl (by rfl) (fun K hK => ?_)
        refine wp_appT (.tmp 18) (.tmp 20) rfl rfl w.heap.size v _ rfl HO2.out W1.heap.size wr.heap.size 1 X rfl HXl.out G2.out GX.out (by omega) HTl.out (Nat.le_trans (by omega) HB2.out.size) ?_
        intro v' W3 ho3 hg3
        obtain ⟨A5, c5, e5⟩ := ho3.form
        rw [show (textsK tw L k ++ (pairsT (rowN tw L k)).take j ++ [X]).length = (textsK tw L k).length + (j + 1) by simp; omega] at e5
        subst e5
        have hgb : ∀ gg, v.ownBlock = some gg → gg ≠ w.heap.size := fun gg e h => by
          subst h
          obtain ⟨_, _, cur, mm, hcur⟩ := HO2.out.lt e
          have := B2.out
          unfold Blk at this
          rw [hcur] at this; cases this
        have B3 : Blk W3 w.heap.size 29 [v] := B2.out.grown hg3 (fun e => hgb _ e.symm rfl)
        have HB3 := Lib.hid B3
        have HO3 := Lib.hid ho3
        have BW3 := Lib.hid ((BW1.out.trans (HB2.out.mono BW1.out.size)).grown hg3 (Nat.le_trans BW1.out.size HB2.out.size) (fun k e => (HO2.out.lt e).2.1))
        have KO3 := Lib.hid ((KO1.out.trans (keepsO_below HB2.out)).trans (HO2.out.keeps hg3))
        have KT3 := Lib.hid ((KT1.out.trans (KpT.below HB2.out)).trans (KpT.grown hg3 (fun r e => by obtain ⟨_, _, cur, mm, hc⟩ := HO2.out.lt e; exact ⟨cur, _, mm, hc, by decide⟩)))
        have c3 := B3.cell (j := 0) (v := v) rfl
        have f3 := B3.free 0
        have hs3 := hg3.size
        have hs2 := HB2.out.size
        clear ho3 hg3 hgb B3 hS2
        refine hK _ _ (fun h => absurd h (by decide)) ?_
        clear hK K
        try simp only [Act.put, List.setIfInBounds_toArray, List.set_cons_zero, List.set_cons_succ, List.getElem_toArray, List.getElem_cons_zero, List.getElem_cons_succ]
        refine AnyTo.gone (i := 4) (by kernel_rfl) rfl (by rfl) (fun K hK => ?_)
        go_simp
        refine hK _ _ (fun h => absurd h (by decide)) ?_
        clear hK K
        try simp only [Act.put, List.setIfInBounds_toArray, List.set_cons_zero, List.set_cons_succ, List.getElem_toArray, List.getElem_cons_zero, List.getElem_cons_succ]
        refine AnyTo.done (by kernel_rfl) ?_ _
        try dsimp only [Exit.then]
        gi_wp2
        go_roundw
        case rel =>
          have hO := HO3.out.aside (x := .slice A5 ((textsK tw L k).length + (j + 1)) c5) HB3.out (by decide) 0
          have eT : textsK tw L k ++ (pairsT (rowN tw L k)).take j ++ [X] = textsK tw L k ++ (pairsT (rowN tw L k)).take (j + 1) := by
            rw [List.append_assoc, List.take_succ_eq_append_getElem hlt, HX.out]
            simp [List.getD, hlt]
          rw [eT] at hO
          refine ⟨j + 1, _, by omega, by go_num, HB3.out.set 0 _, hO, BW3.out.setCell (Nat.le_refl _) _, KO3.out.trans (KeepsOthers.setCell _ _ _), KT3.out.trans (KpT.setCell (show W3.heap[w.heap.size]? = _ from HB3.out) (by decide) _ _), ?_⟩
          have := (KeepsOthers.setCell W3 ⟨w.heap.size, 0, none⟩ (.slice A5 ((textsK tw L k).length + (j + 1)) c5)).size
          omega
        case measure => simp [intOf]; omega
      · have hlt' : ¬ (j : Int) < (n2 : Int) := by omega
        obtain rfl : j = n2 := by omega
        gi_wp2
        show KeepsOthers W _ ∧ KpG W _ ∧ TeI tw L w (k + 1) _
        have hO := HO.out
        rw [List.take_of_length_le (by rw [← Hn2.out]; exact Nat.le_refl _)] at hO
        exact ⟨HKo.out, kpG_of HKt.out HKo.out HG.out HBw.out, ⟨⟨v, HB0.out, hO⟩, HBw.out, hs0⟩⟩
  case done =>
    rintro D W hD ⟨⟨v, hB0, hO⟩, hBl, hlt⟩ hDf
    have c3 := hB0.cell (j := 0) (v := v) rfl
    have HO := Lib.hid hO
    have HBl := Lib.hid hBl
    have HDf := Lib.hid hDf
    clear hB0 hO hBl hDf b0 b2
    go_wp2_with fail
    refine ⟨by simp, .inl ⟨_, _, rfl, run_takeDeferred HDf.out, ?_⟩⟩
    have hgp := grownBy_putObj' W D (.deferred none)
    have hcell : ∀ r, some D = some r → ∃ o : Obj, W.heap[r]? = some o ∧ o.isCells = false := fun r e => by cases e; exact ⟨_, HDf.out, rfl⟩
    refine ⟨_, results_tmp rfl _ _ _, v, rfl, ?_, HBl.out.grown hgp HBl.out.size (fun k e => by cases e; exact Nat.le_trans (Nat.le_of_lt hsz) hD)⟩
    have e : textsT tw L = textsK tw L (nrow n) := by unfold textsT; rw [HN.out]
    rw [e]
    exact HO.out.own hgp hcell
  case stop =>
    intro D c k W _ _ h _
    exact h.elim
end Go.Proofs.YtihbmahjdmfjpaaDoor
