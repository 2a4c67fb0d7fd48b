/- Transactions in memory: slices of bytes, lists of them, inputs, outputs; how each lies. -/
import Derived.Test.YtnkkhmgplpkjbaaDoorRa
namespace Go.Proofs.YtnkkhmgplpkjbaaDoor
open Go.RowKit
set_option linter.unusedVariables false
set_option linter.unusedSimpArgs false
set_option maxRecDepth 100000
/-- The value v is a slice that reads as the bytes L, and lies below block B. -/
def Sl (w : World) (B : Nat) (v : Value) (L : List (BitVec 8)) : Prop :=
  ∃ A cap, v = .slice A L.length cap ∧ Rd w B A L ∧ L.length ≤ cap ∧ cap ≤ 9223372036854775807 ∧ (A = none → cap = 0)
theorem Sl.keep {w w' : World} {B B' : Nat} {v : Value} {L : List (BitVec 8)} (h : Sl w B v L) (hb : Below B' w w') (hB : B ≤ B') : Sl w' B v L := by
  obtain ⟨A, cap, e, hr, r⟩ := h
  exact ⟨A, cap, e, hr.keep' hb hB, r⟩
theorem Sl.up {w : World} {B B' : Nat} {v : Value} {L : List (BitVec 8)} (h : Sl w B v L) (hB : B ≤ B') : Sl w B' v L := by
  obtain ⟨A, cap, e, hr, r⟩ := h
  exact ⟨A, cap, e, hr.up hB, r⟩
theorem Sl.nil (w : World) (B : Nat) : Sl w B (.slice none 0 0) [] := ⟨none, 0, rfl, fun h => by simp at h, Nat.le_refl _, by omega, fun _ => rfl⟩
/-- The value v is a slice of n things of k cells each, below block B; each lies as R says. -/
def Row (w : World) (B : Nat) (v : Value) (n k : Nat) (R : Nat → Nat → Nat → Prop) : Prop :=
  ∃ A cap, v = .slice A n cap ∧ n ≤ cap ∧ cap ≤ 9223372036854775807 ∧ (0 < n → ∃ b o, A = some ⟨b, o, none⟩ ∧ b < B ∧ ∀ j, j < n → R j b (o + j * k))
theorem Row.imp {w w' : World} {B B' : Nat} {v : Value} {n k : Nat} {R R' : Nat → Nat → Nat → Prop} (h : Row w B v n k R) (hB : B ≤ B') (hi : ∀ j b o, j < n → b < B → R j b o → R' j b o) : Row w' B' v n k R' := by
  obtain ⟨A, cap, e, h1, h2, h3⟩ := h
  refine ⟨A, cap, e, h1, h2, fun hp => ?_⟩
  obtain ⟨b, o, eA, hb, hr⟩ := h3 hp
  exact ⟨b, o, eA, Nat.lt_of_lt_of_le hb hB, fun j hj => hi j b _ hj hb (hr j hj)⟩
theorem range_keep {w w' : World} {B b o : Nat} {vs : List Value} (h : w.rangeAt b o vs) (hb : Below B w w') (hlt : b < B) : w'.rangeAt b o vs := fun j v hv => by
  rw [hb.cell (p := ⟨b, o + j, none⟩) hlt]; exact h j v hv
/-- A list of byte strings. -/
def Ws (w : World) (B : Nat) (v : Value) (Ls : List (List (BitVec 8))) : Prop :=
  Row w B v Ls.length 1 fun j b o => ∃ u, w.cell? ⟨b, o, none⟩ = some u ∧ Sl w B u (Ls.getD j [])
theorem Ws.keep {w w' : World} {B B' : Nat} {v : Value} {Ls : List (List (BitVec 8))} (h : Ws w B v Ls) (hb : Below B' w w') (hB : B ≤ B') : Ws w' B v Ls :=
  Row.imp h (Nat.le_refl _) fun j b o _ hlt ⟨u, hc, hs⟩ => ⟨u, by rw [hb.cell (p := ⟨b, o, none⟩) (Nat.lt_of_lt_of_le hlt hB)]; exact hc, hs.keep hb hB⟩
theorem Ws.up {w : World} {B B' : Nat} {v : Value} {Ls : List (List (BitVec 8))} (h : Ws w B v Ls) (hB : B ≤ B') : Ws w B' v Ls :=
  Row.imp h hB fun j b o _ _ ⟨u, hc, hs⟩ => ⟨u, hc, hs.up hB⟩
/-- An input, less what lies elsewhere. -/
structure TIn where
  tx : List (BitVec 8)
  ix : Nat
  sc : List (BitVec 8)
  sq : Nat
  wt : List (List (BitVec 8))
structure TOut where
  vl : Int
  sc : List (BitVec 8)
structure TTx where
  ver : Nat
  ins : List TIn
  outs : List TOut
  lock : Nat
/-- An input's cells. -/
def inV (x : TIn) (s v : Value) : List Value := vbs x.tx ++ [.int .u32 (x.ix : Int), s, .int .u32 (x.sq : Int), v]
def outV (y : TOut) (s : Value) : List Value := [.int .i64 y.vl, s]
/-- What an input's cells lead to. -/
def InOk (w : World) (B : Nat) (x : TIn) (s v : Value) : Prop := Sl w B s x.sc ∧ Ws w B v x.wt ∧ x.tx.length = 32 ∧ x.ix < 4294967296 ∧ x.sq < 4294967296
def OutOk (w : World) (B : Nat) (y : TOut) (s : Value) : Prop := Sl w B s y.sc ∧ -9223372036854775808 ≤ y.vl ∧ y.vl < 9223372036854775808
theorem InOk.keep {w w' : World} {B B' : Nat} {x : TIn} {s v : Value} (h : InOk w B x s v) (hb : Below B' w w') (hB : B ≤ B') : InOk w' B x s v := ⟨h.1.keep hb hB, h.2.1.keep hb hB, h.2.2⟩
theorem InOk.up {w : World} {B B' : Nat} {x : TIn} {s v : Value} (h : InOk w B x s v) (hB : B ≤ B') : InOk w B' x s v := ⟨h.1.up hB, h.2.1.up hB, h.2.2⟩
theorem OutOk.keep {w w' : World} {B B' : Nat} {y : TOut} {s : Value} (h : OutOk w B y s) (hb : Below B' w w') (hB : B ≤ B') : OutOk w' B y s := ⟨h.1.keep hb hB, h.2⟩
theorem OutOk.up {w : World} {B B' : Nat} {y : TOut} {s : Value} (h : OutOk w B y s) (hB : B ≤ B') : OutOk w B' y s := ⟨h.1.up hB, h.2⟩
def In0 : TIn := ⟨[], 0, [], 0, []⟩
def Out0 : TOut := ⟨0, []⟩
/-- A list of inputs, of outputs. -/
def Is (w : World) (B : Nat) (v : Value) (xs : List TIn) : Prop :=
  Row w B v xs.length 36 fun j b o => ∃ s u, w.rangeAt b o (inV (xs.getD j In0) s u) ∧ InOk w B (xs.getD j In0) s u
def Os (w : World) (B : Nat) (v : Value) (ys : List TOut) : Prop :=
  Row w B v ys.length 2 fun j b o => ∃ s, w.rangeAt b o (outV (ys.getD j Out0) s) ∧ OutOk w B (ys.getD j Out0) s
theorem Is.keep {w w' : World} {B B' : Nat} {v : Value} {xs : List TIn} (h : Is w B v xs) (hb : Below B' w w') (hB : B ≤ B') : Is w' B v xs :=
  Row.imp h (Nat.le_refl _) fun j b o _ hlt ⟨s, u, hc, hs⟩ => ⟨s, u, range_keep hc hb (Nat.lt_of_lt_of_le hlt hB), hs.keep hb hB⟩
theorem Is.up {w : World} {B B' : Nat} {v : Value} {xs : List TIn} (h : Is w B v xs) (hB : B ≤ B') : Is w B' v xs :=
  Row.imp h hB fun j b o _ _ ⟨s, u, hc, hs⟩ => ⟨s, u, hc, hs.up hB⟩
theorem Os.keep {w w' : World} {B B' : Nat} {v : Value} {ys : List TOut} (h : Os w B v ys) (hb : Below B' w w') (hB : B ≤ B') : Os w' B v ys :=
  Row.imp h (Nat.le_refl _) fun j b o _ hlt ⟨s, hc, hs⟩ => ⟨s, range_keep hc hb (Nat.lt_of_lt_of_le hlt hB), hs.keep hb hB⟩
theorem Os.up {w : World} {B B' : Nat} {v : Value} {ys : List TOut} (h : Os w B v ys) (hB : B ≤ B') : Os w B' v ys :=
  Row.imp h hB fun j b o _ _ ⟨s, hc, hs⟩ => ⟨s, hc, hs.up hB⟩
/-- A transaction, by value. -/
def txV (t : TTx) (i o : Value) : Value := .agg #[.int .u32 (t.ver : Int), i, o, .int .u32 (t.lock : Int)]
def TxOk (w : World) (B : Nat) (t : TTx) (i o : Value) : Prop := Is w B i t.ins ∧ Os w B o t.outs ∧ t.ver < 4294967296 ∧ t.lock < 4294967296
theorem TxOk.keep {w w' : World} {B B' : Nat} {t : TTx} {i o : Value} (h : TxOk w B t i o) (hb : Below B' w w') (hB : B ≤ B') : TxOk w' B t i o := ⟨h.1.keep hb hB, h.2.1.keep hb hB, h.2.2⟩
theorem TxOk.up {w : World} {B B' : Nat} {t : TTx} {i o : Value} (h : TxOk w B t i o) (hB : B ≤ B') : TxOk w B' t i o := ⟨h.1.up hB, h.2.1.up hB, h.2.2⟩
/-- What a call that tells a bool, and makes memory perhaps, leaves behind. -/
def BoolPost (b : Bool) (w : World) (e : Ending) (w' : World) : Prop := e = .returned (.bool b) ∧ Below w.heap.size w w'
theorem inV_len {x : TIn} {s v : Value} (h : x.tx.length = 32) : (inV x s v).length = 36 := by simp [inV, vbs_len, h]
theorem inV_at {x : TIn} {s v : Value} (h : x.tx.length = 32) : (inV x s v)[32]? = some (.int .u32 (x.ix : Int)) ∧ (inV x s v)[33]? = some s ∧ (inV x s v)[34]? = some (.int .u32 (x.sq : Int)) ∧ (inV x s v)[35]? = some v := by
  have hl : (vbs x.tx).length = 32 := by rw [vbs_len, h]
  unfold inV
  refine ⟨?_, ?_, ?_, ?_⟩ <;> (rw [List.getElem?_append_right (by omega), hl]; rfl)
theorem inV_tx {x : TIn} {s v : Value} {j : Nat} (hj : j < x.tx.length) : (inV x s v)[j]? = some (.int .u8 (Bt (x.tx.getD j 0))) := by
  unfold inV
  rw [List.getElem?_append_left (by rw [vbs_len]; exact hj)]
  exact vbs_at hj
end Go.Proofs.YtnkkhmgplpkjbaaDoor
