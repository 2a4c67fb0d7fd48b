/- Own rows of numbers: an append to a row of the call's own, of a row that came in or of one new number. -/
import Derived.Test.YtjbjkddgefiicaaDoorCc
namespace Go.Proofs.YtjbjkddgefiicaaDoor
open Go.RowKit
set_option linter.unusedVariables false
set_option linter.unusedSimpArgs false
theorem vus_len (l : List (BitVec 32)) : (vus l).length = l.length := by simp [vus]
theorem vus_one (l : List (BitVec 32)) : ∀ v ∈ vus l, v.oneCell' = true := by
  intro v hv
  simp only [vus, List.mem_map] at hv
  obtain ⟨x, _, rfl⟩ := hv
  rfl
/-- What is appended: the cells at A, or nothing. -/
def Src47 (w : World) (A : Option Addr) (m : Nat) (news : List Value) : Prop :=
  news.length = m ∧ (0 < m → ∃ ad, A = some ad ∧ ∀ j u, news[j]? = some u → w.cell? (ad.add j) = some u) ∧ (∀ u ∈ news, u.oneCell' = true)
theorem info29 : (Tryd.prog.info? 29).map (fun i => (i.zero, i.size, i.bytes)) = some (some (.int .u32 0), 1, 4) := by kernel_rfl
theorem run_app47 {w : World} {base : Nat} {v : Value} {n : Nat} {xs : List Value} (hown : w.ownsRow base 29 1 v n xs) {A : Option Addr} {m c : Nat} {news : List Value} (hs : Src47 w A m news) (hc : A = none → c = 0) (hb : n + m ≤ 35184372088832) (hbase : base ≤ w.heap.size) :
    ∃ v' w', (Builtin.append_ #[47, 47] 47 #[v, .slice A m c]).run Tryd.prog w = .ok v' w' ∧ w'.ownsRow base 29 1 v' (n + m) (xs ++ news) ∧ w.grownBy w' v.ownBlock := by
  obtain ⟨i0, hi, hz0, hz1, hz2⟩ := info_parts info29
  obtain ⟨h1, h2, h3⟩ := hs
  cases A with
  | some ad =>
    have hnews : ∀ j u, news[j]? = some u → w.cell? (ad.add j) = some u := fun j u hj => by
      have hl := (List.getElem?_eq_some_iff.1 hj).1
      obtain ⟨ad', e, hc⟩ := h2 (by omega)
      cases e
      exact hc j u hj
    obtain ⟨v', w', hr, ho, hg, _⟩ := run_append_own (P := Tryd.prog) w base 47 47 29 i0 (.int .u32 0) 1 4 Tryd.underlying47 hi hz0 hz1 hz2 rfl (by omega) v n xs hown ad m c news (by omega) hnews h3 (by unfold maxLen; omega) (by omega) hbase
    exact ⟨v', w', hr, ho, hg⟩
  | none =>
    have hm : m = 0 := Nat.eq_zero_of_not_pos fun hp => by obtain ⟨ad, e, _⟩ := h2 hp; cases e
    have hc0 := hc rfl
    subst hm hc0
    have : news = [] := List.eq_nil_of_length_eq_zero h1
    subst this
    exact ⟨v, w, run_append_owned_none (P := Tryd.prog) (w := w) base 47 47 29 i0 1 Tryd.underlying47 hi v n xs hown, by simpa using hown, ⟨rfl, rfl, rfl, Nat.le_refl _, fun _ _ _ => rfl⟩⟩
theorem wp_app47 {w : World} {o : Oper} {a : Act} {K : Act → World → Prop} {Q : Exit → Act → World → Prop} (s x : Operand) (ho : o.op = .call { callee := .builtin .append, args := #[s, x], argTypes := #[47, 47] }) (hty : o.type = 47)
    (base : Nat) (v : Value) (n : Nat) (xs : List Value) (hs : a.eval s = v) (hown : w.ownsRow base 29 1 v n xs) (A : Option Addr) (m c : Nat) (news : List Value) (hx : a.eval x = .slice A m c) (hsr : Src47 w A m news) (hc : A = none → c = 0) (hb : n + m ≤ 35184372088832) (hbase : base ≤ w.heap.size)
    (h : ∀ v' w', w'.ownsRow base 29 1 v' (n + m) (xs ++ news) → w.grownBy w' v.ownBlock → K (a.put o.dst v') w') : o.wp Tryd.prog a w K Q := by
  obtain ⟨v', w', hr, h2, h3⟩ := run_app47 hown hsr hc hb hbase
  rw [← hty] at hr
  unfold Oper.wp execOp
  simp only [ho, resolve, invoke, builtin, Sem.run_bind, Sem.run_pure, Result.andThen_ok, List.map_toArray, List.map_cons, List.map_nil, hs, hx]
  rw [hty] at hr ⊢
  simp only [hr]
  exact h v' w' h2 h3
theorem owns_empty47 (w : World) (base : Nat) (hb : base ≤ w.heap.size) : (w.alloc (.cells #[] 29)).ownsRow base 29 1 (.slice (some ⟨w.heap.size, 0, none⟩) 0 0) 0 [] :=
  World.ownsRow_made w #[] 0 hb (by unfold maxLen; omega) rfl
theorem src47_of_blk {w : World} {b T : Nat} {R : List (BitVec 32)} (h : Blk w b T (vus R)) : Src47 w (some ⟨b, 0, none⟩) R.length (vus R) :=
  ⟨vus_len R, fun _ => ⟨⟨b, 0, none⟩, rfl, fun j u hj => by rw [Addr.add_mid, Nat.zero_add]; exact h.cell hj⟩, vus_one R⟩
/-- A row of the call's own, read as bytes. -/
theorem rdu_of_owns {w : World} {base : Nat} {v : Value} {R : List (BitVec 32)} (h : w.ownsRow base 29 1 v R.length (vus R)) : ∃ A cap, v = .slice A R.length cap ∧ RdU w w.heap.size A R ∧ R.length ≤ cap ∧ cap ≤ 9223372036854775807 ∧ (A = none → cap = 0) := by
  rcases h.2 with ⟨rfl, h0⟩ | ⟨g, cap, cur, rfl, hb, hg, hn, hm, hcs, ht⟩
  · exact ⟨none, 0, by rw [h0], fun hp => by omega, by omega, by omega, fun _ => rfl⟩
  · refine ⟨_, cap, rfl, fun hp => ⟨g, 0, rfl, (Array.getElem?_eq_some_iff.1 hg).1, fun j hj => ?_⟩, hn, by unfold maxLen at hm; omega, fun h => by cases h⟩
    have h1 := h.cells (g := g) rfl j (.int .u32 (U (R.getD j 0))) (vus_at hj)
    rwa [Addr.add_mid] at h1
theorem wpList_app47 {w : World} {ops : Array Oper} {rest : List Oper} {o : Oper} {a : Act} {Q : Exit → Act → World → Prop} (hgd : o.guard = none) (s x : Operand) (ho : o.op = .call { callee := .builtin .append, args := #[s, x], argTypes := #[47, 47] }) (hty : o.type = 47)
    (base : Nat) (v : Value) (n : Nat) (xs : List Value) (hs : a.eval s = v) (hown : w.ownsRow base 29 1 v n xs) (A : Option Addr) (m c : Nat) (news : List Value) (hx : a.eval x = .slice A m c) (hsr : Src47 w A m news) (hc : A = none → c = 0) (hb : n + m ≤ 35184372088832) (hbase : base ≤ w.heap.size)
    (h : ∀ v' w', w'.ownsRow base 29 1 v' (n + m) (xs ++ news) → w.grownBy w' v.ownBlock → wpList Tryd.prog ops Q rest (a.put o.dst v') w') : wpList Tryd.prog ops Q (o :: rest) a w :=
  wpList_plain hgd fun _ hK => wp_app47 s x ho hty base v n xs hs hown A m c news hx hsr hc hb hbase fun v' w' h2 h3 => hK _ _ (h v' w' h2 h3)
/-- The call's own row v holds the bytes L. -/
def OU (w : World) (B : Nat) (v : Value) (L : List (BitVec 32)) : Prop := w.ownsRow B 29 1 v L.length (vus L)
theorem OU.nil (w : World) (B : Nat) : OU w B (.slice none 0 0) [] := World.ownsRow_nil w B 29 1
theorem OU.below {w w' : World} {B B' : Nat} {v : Value} {L : List (BitVec 32)} (h : OU w B v L) (hb : Below w.heap.size w w') : OU w' B v L := by
  refine ⟨h.1, ?_⟩
  rcases h.2 with hn | ⟨g, cap, cur, rfl, hbb, hgg, rest⟩
  · exact .inl hn
  · exact .inr ⟨g, cap, cur, rfl, hbb, by rw [hb.block g (Array.getElem?_eq_some_iff.1 hgg).1]; exact hgg, rest⟩
theorem OU.alloc {w : World} {B : Nat} {v : Value} {L : List (BitVec 32)} (h : OU w B v L) (o : Obj) : OU (w.alloc o) B v L := World.ownsRow.alloc h o
theorem OU.drew {w : World} {B : Nat} {v : Value} {L : List (BitVec 32)} (h : OU w B v L) : OU w.drew B v L := h
theorem OU.rd {w : World} {B : Nat} {v : Value} {L : List (BitVec 32)} (h : OU w B v L) : ∃ A cap, v = .slice A L.length cap ∧ RdU w w.heap.size A L ∧ L.length ≤ cap ∧ cap ≤ 9223372036854775807 ∧ (A = none → cap = 0) := rdu_of_owns h
/-- Behind an append. -/
theorem OU.app {w0 w w' : World} {B B' : Nat} {v v' : Value} {L M : List (BitVec 32)} (h : OU w B v L) (hb : Below B' w0 w) (hB : B ≤ w.heap.size) (hBB : B' ≤ B) (h2 : w'.ownsRow B 29 1 v' (L.length + M.length) (vus L ++ vus M)) (h3 : w.grownBy w' v.ownBlock) : OU w' B v' (L ++ M) ∧ Below B' w0 w' := by
  refine ⟨?_, hb.grown h3 (Nat.le_trans hBB hB) (fun k hk => Nat.le_trans hBB (World.ownsRow.lt h k hk).1)⟩
  unfold OU
  rw [List.length_append, show vus (L ++ M) = vus L ++ vus M by simp [vus]]
  exact h2
theorem wpList_push47 {w : World} {ops : Array Oper} {rest : List Oper} {o : Oper} {a : Act} {Q : Exit → Act → World → Prop} (hgd : o.guard = none) (s x : Operand) (ho : o.op = .call { callee := .builtin .append, args := #[s, x], argTypes := #[47, 47] }) (hty : o.type = 47)
    (B : Nat) (v : Value) (L M : List (BitVec 32)) (hs : a.eval s = v) (hown : OU w B v L) (A : Option Addr) (m c : Nat) (hx : a.eval x = .slice A m c) (hm : m = M.length) (hsr : Src47 w A M.length (vus M)) (hc : A = none → c = 0) (hb : L.length + M.length ≤ 35184372088832) {w0 : World} {B' : Nat} (hbel : Below B' w0 w) (hB : B ≤ w.heap.size) (hBB : B' ≤ B)
    (h : ∀ v' w', OU w' B v' (L ++ M) → Below B' w0 w' → Below B w w' → wpList Tryd.prog ops Q rest (a.put o.dst v') w') : wpList Tryd.prog ops Q (o :: rest) a w := by
  subst hm
  exact wpList_app47 hgd s x ho hty B v L.length (vus L) hs hown A M.length c (vus M) hx hsr hc hb hB fun v' w' h2 h3 => by
    have hA := OU.app hown hbel hB hBB h2 h3
    exact h v' w' hA.1 hA.2 ((Below.refl B w).grown h3 hB (fun k hk => (World.ownsRow.lt hown k hk).1))
theorem one_len47 (x : BitVec 32) : 1 = [x].length := rfl
theorem src47_one (w : World) (x : BitVec 32) : Src47 (w.alloc (.cells #[.int .u32 (U x)] 29)) (some ⟨w.heap.size, 0, none⟩) 1 (vus [x]) :=
  src47_of_blk (Blk.new w 29 #[.int .u32 (U x)])
theorem src47_of_rd {w : World} {B : Nat} {A : Option Addr} {M : List (BitVec 32)} (h : RdU w B A M) : Src47 w A M.length (vus M) :=
  ⟨vus_len M, fun hp => by
    obtain ⟨b, o, e, hlt, hc⟩ := h hp
    refine ⟨⟨b, o, none⟩, e, fun j u hj => ?_⟩
    have hl := (List.getElem?_eq_some_iff.1 hj).1
    rw [vus_len] at hl
    rw [vus_at hl] at hj
    rw [Addr.add_mid, hc j hl]; exact hj, vus_one M⟩
end Go.Proofs.YtjbjkddgefiicaaDoor
