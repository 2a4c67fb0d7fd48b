/- What tx.written returns: the bytes of a transaction. -/
import Derived.Test.YtnkkhmgplpkjbaaDoorLj
import Derived.Lib.AppendStr
import Derived.Outline
namespace Go.Proofs.YtnkkhmgplpkjbaaDoor
open Go.RowKit
set_option linter.unusedVariables false
set_option linter.unusedSimpArgs false
set_option maxRecDepth 100000
/-- The bytes of a transaction, full or bare. -/
def layB (t : TTx) (full : Bool) : List (BitVec 8) :=
  les t.ver 4 ++ (if full = true then [0, 1] else []) ++ form t.ins.length ++ (t.ins.map inB).flatten ++ form t.outs.length ++ (t.outs.map outB).flatten ++ (if full = true then witsB t.ins else []) ++ les t.lock 4
theorem chk_zero {t : TTx} (h : chk t = 0) : t.ins.length ≤ 16 ∧ t.outs.length ≤ 16 ∧ (∀ x ∈ t.ins, x.sc.length ≤ 128) ∧ WitOk t.ins ∧ (∀ y ∈ t.outs, y.sc.length ≤ 128) ∧ 0 < t.ins.length ∧ 0 < t.outs.length := by
  have fit : ∀ n, fitE n = 0 → 0 < n ∧ n ≤ 16 := by
    intro n hn
    unfold fitE at hn
    split at hn
    · cases hn
    · split at hn
      · cases hn
      · omega
  unfold chk at h
  split at h
  · rename_i h1; exact absurd h h1
  · rename_i h1
    split at h
    · rename_i h2; exact absurd h h2
    · rename_i h2
      split at h
      · cases h
      · rename_i h3
        have e1 : t.ins.any lngIn = false := by cases hh : t.ins.any lngIn with | true => exact absurd (Or.inl hh) h3 | false => rfl
        have e2 : t.outs.any lngOut = false := by cases hh : t.outs.any lngOut with | true => exact absurd (Or.inr hh) h3 | false => rfl
        have f1 := fit _ (Decidable.not_not.1 h1)
        have f2 := fit _ (Decidable.not_not.1 h2)
        refine ⟨f1.2, f2.2, fun x hx => ?_, fun x hx => ?_, fun y hy => ?_, f1.1, f2.1⟩
        · have := List.any_eq_false.1 e1 x hx
          simp [lngIn, lng] at this
          omega
        · have := List.any_eq_false.1 e1 x hx
          simp [lngIn, lng] at this
          exact ⟨by omega, fun t ht => this.2 t ht⟩
        · have := List.any_eq_false.1 e2 y hy
          simp [lngOut, lng] at this
          omega
theorem strCells_vbs : Lib.strCells { data := #[0, 1] } = vbs [0, 1] := by kernel_rfl
theorem run_appS {w : World} {B : Nat} {v : Value} {L : List (BitVec 8)} (hown : OB w B v L) (hb : L.length ≤ 1000000) (hbase : B ≤ w.heap.size) :
    ∃ v' w', (Builtin.append_ #[27, 9] 27 #[v, .string { data := #[0, 1] }]).run Tryd.prog w = .ok v' w' ∧ w'.ownsRow B 5 1 v' (L.length + 2) (vbs L ++ vbs [0, 1]) ∧ w.grownBy w' v.ownBlock := by
  obtain ⟨i0, hi, hz0, hz1, hz2⟩ := info_parts info5
  obtain ⟨v', w', hr, ho, hg, _⟩ := Lib.run_append_own_string (P := Tryd.prog) w B 27 9 27 5 i0 Tryd.underlying27 Tryd.underlying9 hi hz0 hz1 hz2 v L.length (vbs L) hown { data := #[0, 1] } (by show L.length + 2 ≤ _; unfold maxLen; omega) (by show L.length + 2 ≤ _; omega) hbase
  rw [strCells_vbs] at ho
  exact ⟨v', w', hr, ho, hg⟩
theorem wpList_pushS {w : World} {ops : Array Oper} {rest : List Oper} {o : Oper} {a : Act} {Q : Exit → Act → World → Prop} (hgd : o.guard = none) (s x : Operand) (ho : o.op = .call { callee := .builtin .append, args := #[s, x], argTypes := #[27, 9] }) (hty : o.type = 27)
    (B : Nat) (v : Value) (L : List (BitVec 8)) (hs : a.eval s = v) (hown : OB w B v L) (hx : a.eval x = .string { data := #[0, 1] }) (hb : L.length ≤ 1000000) (hB : B ≤ w.heap.size)
    (h : ∀ v' w', w'.ownsRow B 5 1 v' (L.length + 2) (vbs L ++ vbs [0, 1]) → w.grownBy w' v.ownBlock → wpList Tryd.prog ops Q rest (a.put o.dst v') w') : wpList Tryd.prog ops Q (o :: rest) a w := by
  obtain ⟨v', w', hr, h2, h3⟩ := run_appS hown hb hB
  refine wpList_plain hgd fun K hK => ?_
  rw [← hty] at hr
  unfold Oper.wp execOp
  simp only [ho, resolve, invoke, builtin, Sem.run_bind, Sem.run_pure, Result.andThen_ok, List.map_toArray, List.map_cons, List.map_nil, hs, hx]
  rw [hty] at hr ⊢
  simp only [hr]
  exact hK _ _ (h v' w' h2 h3)
theorem Row.open {w : World} {B : Nat} {v : Value} {n k : Nat} {R : Nat → Nat → Nat → Prop} (h : Row w B v n k R) :
    ∃ A cap b o, v = .slice A n cap ∧ (0 < n → A = some ⟨b, o, none⟩) ∧ ∀ j, j < n → b < B ∧ R j b (o + j * k) := by
  obtain ⟨A, cap, e, _, _, hr⟩ := h
  by_cases hp : 0 < n
  · obtain ⟨b, o, eA, hlt, hh⟩ := hr hp
    exact ⟨A, cap, b, o, e, fun _ => eA, fun j hj => ⟨hlt, hh j hj⟩⟩
  · exact ⟨A, cap, 0, 0, e, fun h => absurd h hp, fun j hj => by omega⟩
theorem inB_le {x : TIn} (h : x.sc.length ≤ 128) (h32 : x.tx.length = 32) : (inB x).length ≤ 200 := by
  have := txt_len x.sc
  simp only [inB, List.length_append, les_len]
  omega
theorem outB_le {y : TOut} (h : y.sc.length ≤ 128) : (outB y).length ≤ 200 := by
  have := txt_len y.sc
  simp only [outB, List.length_append, les_len]
  omega
theorem wits_w (xs : List TIn) (A : Option Addr) (n c m : Nat) (w : World) (h : Is w w.heap.size (.slice A n c) xs) (hl : xs.length ≤ 16) (hok : WitOk xs) (hm : (witsB xs).length = m) :
    Calls Tryd.prog 74 #[.slice A n c] w fun e w' => ∃ A' c', e = .returned (.slice A' m c') ∧ Src22 w' A' m (vbs (witsB xs)) ∧ (A' = none → c' = 0) ∧ Below w.heap.size w w' :=
  (wits_any xs _ w h hl hok).mono fun e w' ⟨v, he, ho, hb⟩ => by
    obtain ⟨A', c', rfl, hr, hc⟩ := slice_form ho
    have hs := src_of_rd hr
    rw [hm] at hs he
    exact ⟨A', c', he, hs, hc, hb⟩
/-- What the writing of all inputs, of all outputs, makes of the variable. -/
theorem ins_wr (xs : List TIn) (A : Option Addr) (n c B cb : Nat) (w0 w : World) (v : Value) (L : List (BitVec 8)) (hn : n = xs.length) (h : Is w0 B (.slice A n c) xs) (hl : n ≤ 16) (hok : ∀ x ∈ xs, x.sc.length ≤ 128) (hL : L.length ≤ 10000) (hC : CapV w0 B cb v w L) :
    Calls Tryd.prog 69 #[.slice A n c, .func (.func 70) #[] #[.pointer (some ⟨cb, 0, none⟩)]] w (WrPost w0 B cb (L ++ (xs.map inB).flatten)) := by
  obtain ⟨A', c', b, o, e, hA, hj⟩ := Row.open h
  subst hn
  cases e
  have hlen : ∀ x ∈ xs, (inB x).length ≤ 200 := fun x hx => by
    obtain ⟨k, hk, rfl⟩ := List.getElem_of_mem hx
    obtain ⟨_, s, u, _, _, _, h32, _, _⟩ := hj k hk
    have e : xs.getD k In0 = xs[k] := by simp [List.getD, hk]
    rw [e] at h32
    exact inB_le (hok _ hx) h32
  have K := each_in (fun j => L ++ ((xs.take j).map inB).flatten) A xs.length c b o B cb w0 w v hA (by omega) (fun j hjn wq u hC' => by
    obtain ⟨hlt, s, u', hr, hk⟩ := hj j hjn
    have hle : ((xs.take j).map inB).flatten.length ≤ j * 200 := by
      have := flat_le inB 200 (xs.take j) (take_sub hlen)
      rw [List.length_take, Nat.min_eq_left (by omega)] at this
      exact this
    have := wIn_any (xs.getD j In0) s u' b (o + j * 36) B cb u w0 wq _ hlt hr hk hC' (by rw [List.length_append]; omega) (by have := hok _ (getD_mem xs In0 j hjn); omega)
    rw [List.append_assoc, ← flat_succ inB xs In0 j hjn] at this
    exact this) (by simpa using hC)
  rw [List.take_of_length_le (Nat.le_refl _)] at K
  exact K
theorem outs_wr (xs : List TOut) (A : Option Addr) (n c B cb : Nat) (w0 w : World) (v : Value) (L : List (BitVec 8)) (hn : n = xs.length) (h : Os w0 B (.slice A n c) xs) (hl : n ≤ 16) (hok : ∀ x ∈ xs, x.sc.length ≤ 128) (hL : L.length ≤ 10000) (hC : CapV w0 B cb v w L) :
    Calls Tryd.prog 72 #[.slice A n c, .func (.func 73) #[] #[.pointer (some ⟨cb, 0, none⟩)]] w (WrPost w0 B cb (L ++ (xs.map outB).flatten)) := by
  obtain ⟨A', c', b, o, e, hA, hj⟩ := Row.open h
  subst hn
  cases e
  have K := each_out (fun j => L ++ ((xs.take j).map outB).flatten) A xs.length c b o B cb w0 w v hA (by omega) (fun j hjn wq u hC' => by
    obtain ⟨hlt, s, hr, hk⟩ := hj j hjn
    have hle : ((xs.take j).map outB).flatten.length ≤ j * 200 := by
      have := flat_le outB 200 (xs.take j) (take_sub fun x hx => outB_le (hok x hx))
      rw [List.length_take, Nat.min_eq_left (by omega)] at this
      exact this
    have := wOut_any (xs.getD j Out0) s b (o + j * 2) B cb u w0 wq _ hlt hr hk hC' (by rw [List.length_append]; omega) (by have := hok _ (getD_mem xs Out0 j hjn); omega)
    rw [List.append_assoc, ← flat_succ outB xs Out0 j hjn] at this
    exact this) (by simpa using hC)
  rw [List.take_of_length_le (Nat.le_refl _)] at K
  exact K
end Go.Proofs.YtnkkhmgplpkjbaaDoor
