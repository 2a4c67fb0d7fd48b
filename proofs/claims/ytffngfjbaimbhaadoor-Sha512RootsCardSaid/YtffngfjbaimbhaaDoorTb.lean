/- Own rows of numbers of 64 bits: an append to a row of the call's own, of a row that came in or of new numbers. -/
import Derived.Test.YtffngfjbaimbhaaDoorTa
import Derived.Test.YtffngfjbaimbhaaDoorSc
namespace Go.Proofs.YtffngfjbaimbhaaDoor
open Go.RowKit
set_option linter.unusedVariables false
set_option linter.unusedSimpArgs false
/-- The slice with address A reads as the numbers M, and lies below block B. -/
def RdV (w : World) (B : Nat) (A : Option Addr) (M : List (BitVec 64)) : Prop :=
  0 < M.length → ∃ b o, A = some ⟨b, o, none⟩ ∧ b < B ∧ ∀ j, j < M.length → w.cell? ⟨b, o + j, none⟩ = some (.int .u64 (V (M.getD j 0)))
theorem RdV.keep {w w' : World} {B B' : Nat} {A : Option Addr} {M : List (BitVec 64)} (h : RdV w B A M) (hb : Below B' w w') (hB : B ≤ B') : RdV w' B A M := fun hp => by
  obtain ⟨b, o, e, hlt, hc⟩ := h hp
  exact ⟨b, o, e, hlt, fun j hj => by rw [hb.cell (p := ⟨b, o + j, none⟩) (Nat.lt_of_lt_of_le hlt hB)]; exact hc j hj⟩
theorem RdV.up {w : World} {B B' : Nat} {A : Option Addr} {M : List (BitVec 64)} (h : RdV w B A M) (hB : B ≤ B') : RdV w B' A M := fun hp => by
  obtain ⟨b, o, e, hlt, hc⟩ := h hp
  exact ⟨b, o, e, Nat.lt_of_lt_of_le hlt hB, hc⟩
/-- What is appended: the cells at A, or nothing. -/
def Src33 (w : World) (A : Option Addr) (m : Nat) (news : List Value) : Prop :=
  news.length = m ∧ (0 < m → ∃ ad, A = some ad ∧ ∀ j u, news[j]? = some u → w.cell? (ad.add j) = some u) ∧ (∀ u ∈ news, u.oneCell' = true)
theorem info37 : (Tryd.prog.info? 37).map (fun i => (i.zero, i.size, i.bytes)) = some (some (.int .u64 0), 1, 8) := by kernel_rfl
theorem run_app33 {w : World} {base : Nat} {v : Value} {n : Nat} {xs : List Value} (hown : w.ownsRow base 37 1 v n xs) {A : Option Addr} {m c : Nat} {news : List Value} (hs : Src33 w A m news) (hc : A = none → c = 0) (hb : n + m ≤ 17592186044416) (hbase : base ≤ w.heap.size) :
    ∃ v' w', (Builtin.append_ #[33, 33] 33 #[v, .slice A m c]).run Tryd.prog w = .ok v' w' ∧ w'.ownsRow base 37 1 v' (n + m) (xs ++ news) ∧ w.grownBy w' v.ownBlock := by
  obtain ⟨i0, hi, hz0, hz1, hz2⟩ := info_parts info37
  obtain ⟨h1, h2, h3⟩ := hs
  cases A with
  | some ad =>
    have hnews : ∀ j u, news[j]? = some u → w.cell? (ad.add j) = some u := fun j u hj => by
      have hl := (List.getElem?_eq_some_iff.1 hj).1
      obtain ⟨ad', e, hc⟩ := h2 (by omega)
      cases e
      exact hc j u hj
    obtain ⟨v', w', hr, ho, hg, _⟩ := run_append_own (P := Tryd.prog) w base 33 33 37 i0 (.int .u64 0) 1 8 Tryd.underlying33 hi hz0 hz1 hz2 rfl (by omega) v n xs hown ad m c news (by omega) hnews h3 (by unfold maxLen; omega) (by omega) hbase
    exact ⟨v', w', hr, ho, hg⟩
  | none =>
    have hm : m = 0 := Nat.eq_zero_of_not_pos fun hp => by obtain ⟨ad, e, _⟩ := h2 hp; cases e
    have hc0 := hc rfl
    subst hm hc0
    have : news = [] := List.eq_nil_of_length_eq_zero h1
    subst this
    exact ⟨v, w, run_append_owned_none (P := Tryd.prog) (w := w) base 33 33 37 i0 1 Tryd.underlying33 hi v n xs hown, by simpa using hown, ⟨rfl, rfl, rfl, Nat.le_refl _, fun _ _ _ => rfl⟩⟩
theorem wp_app33 {w : World} {o : Oper} {a : Act} {K : Act → World → Prop} {Q : Exit → Act → World → Prop} (s x : Operand) (ho : o.op = .call { callee := .builtin .append, args := #[s, x], argTypes := #[33, 33] }) (hty : o.type = 33)
    (base : Nat) (v : Value) (n : Nat) (xs : List Value) (hs : a.eval s = v) (hown : w.ownsRow base 37 1 v n xs) (A : Option Addr) (m c : Nat) (news : List Value) (hx : a.eval x = .slice A m c) (hsr : Src33 w A m news) (hc : A = none → c = 0) (hb : n + m ≤ 17592186044416) (hbase : base ≤ w.heap.size)
    (h : ∀ v' w', w'.ownsRow base 37 1 v' (n + m) (xs ++ news) → w.grownBy w' v.ownBlock → K (a.put o.dst v') w') : o.wp Tryd.prog a w K Q := by
  obtain ⟨v', w', hr, h2, h3⟩ := run_app33 hown hsr hc hb hbase
  rw [← hty] at hr
  unfold Oper.wp execOp
  simp only [ho, resolve, invoke, builtin, Sem.run_bind, Sem.run_pure, Result.andThen_ok, List.map_toArray, List.map_cons, List.map_nil, hs, hx]
  rw [hty] at hr ⊢
  simp only [hr]
  exact h v' w' h2 h3
theorem owns_empty33 (w : World) (base : Nat) (hb : base ≤ w.heap.size) : (w.alloc (.cells #[] 37)).ownsRow base 37 1 (.slice (some ⟨w.heap.size, 0, none⟩) 0 0) 0 [] :=
  World.ownsRow_made w #[] 0 hb (by unfold maxLen; omega) rfl
theorem src33_of_blk {w : World} {b T : Nat} {R : List (BitVec 64)} (h : Blk w b T (vws R)) : Src33 w (some ⟨b, 0, none⟩) R.length (vws R) :=
  ⟨vws_len R, fun _ => ⟨⟨b, 0, none⟩, rfl, fun j u hj => by rw [Addr.add_mid, Nat.zero_add]; exact h.cell hj⟩, vws_one R⟩
/-- A row of the call's own, read as bytes. -/
theorem rdv_of_owns {w : World} {base : Nat} {v : Value} {R : List (BitVec 64)} (h : w.ownsRow base 37 1 v R.length (vws R)) : ∃ A cap, v = .slice A R.length cap ∧ RdV w w.heap.size A R ∧ R.length ≤ cap ∧ cap ≤ 9223372036854775807 ∧ (A = none → cap = 0) := by
  rcases h.2 with ⟨rfl, h0⟩ | ⟨g, cap, cur, rfl, hb, hg, hn, hm, hcs, ht⟩
  · exact ⟨none, 0, by rw [h0], fun hp => by omega, by omega, by omega, fun _ => rfl⟩
  · refine ⟨_, cap, rfl, fun hp => ⟨g, 0, rfl, (Array.getElem?_eq_some_iff.1 hg).1, fun j hj => ?_⟩, hn, by unfold maxLen at hm; omega, fun h => by cases h⟩
    have h1 := h.cells (g := g) rfl j (.int .u64 (V (R.getD j 0))) (vws_at hj)
    rwa [Addr.add_mid] at h1
theorem wpList_app33 {w : World} {ops : Array Oper} {rest : List Oper} {o : Oper} {a : Act} {Q : Exit → Act → World → Prop} (hgd : o.guard = none) (s x : Operand) (ho : o.op = .call { callee := .builtin .append, args := #[s, x], argTypes := #[33, 33] }) (hty : o.type = 33)
    (base : Nat) (v : Value) (n : Nat) (xs : List Value) (hs : a.eval s = v) (hown : w.ownsRow base 37 1 v n xs) (A : Option Addr) (m c : Nat) (news : List Value) (hx : a.eval x = .slice A m c) (hsr : Src33 w A m news) (hc : A = none → c = 0) (hb : n + m ≤ 17592186044416) (hbase : base ≤ w.heap.size)
    (h : ∀ v' w', w'.ownsRow base 37 1 v' (n + m) (xs ++ news) → w.grownBy w' v.ownBlock → wpList Tryd.prog ops Q rest (a.put o.dst v') w') : wpList Tryd.prog ops Q (o :: rest) a w :=
  wpList_plain hgd fun _ hK => wp_app33 s x ho hty base v n xs hs hown A m c news hx hsr hc hb hbase fun v' w' h2 h3 => hK _ _ (h v' w' h2 h3)
/-- The call's own row v holds the bytes L. -/
def OV (w : World) (B : Nat) (v : Value) (L : List (BitVec 64)) : Prop := w.ownsRow B 37 1 v L.length (vws L)
theorem OV.nil (w : World) (B : Nat) : OV w B (.slice none 0 0) [] := World.ownsRow_nil w B 37 1
theorem OV.below {w w' : World} {B B' : Nat} {v : Value} {L : List (BitVec 64)} (h : OV w B v L) (hb : Below w.heap.size w w') : OV w' B v L := by
  refine ⟨h.1, ?_⟩
  rcases h.2 with hn | ⟨g, cap, cur, rfl, hbb, hgg, rest⟩
  · exact .inl hn
  · exact .inr ⟨g, cap, cur, rfl, hbb, by rw [hb.block g (Array.getElem?_eq_some_iff.1 hgg).1]; exact hgg, rest⟩
theorem OV.alloc {w : World} {B : Nat} {v : Value} {L : List (BitVec 64)} (h : OV w B v L) (o : Obj) : OV (w.alloc o) B v L := World.ownsRow.alloc h o
theorem OV.drew {w : World} {B : Nat} {v : Value} {L : List (BitVec 64)} (h : OV w B v L) : OV w.drew B v L := h
theorem OV.rd {w : World} {B : Nat} {v : Value} {L : List (BitVec 64)} (h : OV w B v L) : ∃ A cap, v = .slice A L.length cap ∧ RdV w w.heap.size A L ∧ L.length ≤ cap ∧ cap ≤ 9223372036854775807 ∧ (A = none → cap = 0) := rdv_of_owns h
/-- Behind an append. -/
theorem OV.app {w0 w w' : World} {B B' : Nat} {v v' : Value} {L M : List (BitVec 64)} (h : OV w B v L) (hb : Below B' w0 w) (hB : B ≤ w.heap.size) (hBB : B' ≤ B) (h2 : w'.ownsRow B 37 1 v' (L.length + M.length) (vws L ++ vws M)) (h3 : w.grownBy w' v.ownBlock) : OV w' B v' (L ++ M) ∧ Below B' w0 w' := by
  refine ⟨?_, hb.grown h3 (Nat.le_trans hBB hB) (fun k hk => Nat.le_trans hBB (World.ownsRow.lt h k hk).1)⟩
  unfold OV
  rw [List.length_append, show vws (L ++ M) = vws L ++ vws M by simp [vws]]
  exact h2
theorem wpList_push33 {w : World} {ops : Array Oper} {rest : List Oper} {o : Oper} {a : Act} {Q : Exit → Act → World → Prop} (hgd : o.guard = none) (s x : Operand) (ho : o.op = .call { callee := .builtin .append, args := #[s, x], argTypes := #[33, 33] }) (hty : o.type = 33)
    (B : Nat) (v : Value) (L M : List (BitVec 64)) (hs : a.eval s = v) (hown : OV w B v L) (A : Option Addr) (m c : Nat) (hx : a.eval x = .slice A m c) (hm : m = M.length) (hsr : Src33 w A M.length (vws M)) (hc : A = none → c = 0) (hb : L.length + M.length ≤ 17592186044416) {w0 : World} {B' : Nat} (hbel : Below B' w0 w) (hB : B ≤ w.heap.size) (hBB : B' ≤ B)
    (h : ∀ v' w', OV w' B v' (L ++ M) → Below B' w0 w' → Below B w w' → wpList Tryd.prog ops Q rest (a.put o.dst v') w') : wpList Tryd.prog ops Q (o :: rest) a w := by
  subst hm
  exact wpList_app33 hgd s x ho hty B v L.length (vws L) hs hown A M.length c (vws M) hx hsr hc hb hB fun v' w' h2 h3 => by
    have hA := OV.app hown hbel hB hBB h2 h3
    exact h v' w' hA.1 hA.2 ((Below.refl B w).grown h3 hB (fun k hk => (World.ownsRow.lt hown k hk).1))
theorem one_len33 (x : BitVec 64) : 1 = [x].length := rfl
theorem src33_one (w : World) (x : BitVec 64) : Src33 (w.alloc (.cells #[.int .u64 (V x)] 37)) (some ⟨w.heap.size, 0, none⟩) 1 (vws [x]) :=
  src33_of_blk (Blk.new w 37 #[.int .u64 (V x)])
theorem src33_of_rd {w : World} {B : Nat} {A : Option Addr} {M : List (BitVec 64)} (h : RdV w B A M) : Src33 w A M.length (vws M) :=
  ⟨vws_len M, fun hp => by
    obtain ⟨b, o, e, hlt, hc⟩ := h hp
    refine ⟨⟨b, o, none⟩, e, fun j u hj => ?_⟩
    have hl := (List.getElem?_eq_some_iff.1 hj).1
    rw [vws_len] at hl
    rw [vws_at hl] at hj
    rw [Addr.add_mid, hc j hl]; exact hj, vws_one M⟩
end Go.Proofs.YtffngfjbaimbhaaDoor
