/- Plain laws: a slice of bytes that came in, or nil, appended to a slice of the call's own; a slice built empty. -/
import Derived.Test.YtjbjkddgefiicaaDoorW
import Derived.Laws.AppendOwnNone
namespace Go.Proofs.YtjbjkddgefiicaaDoor
open Go.RowKit
set_option linter.unusedVariables false
set_option linter.unusedSimpArgs false
theorem AnyBut.gone {P : Program} {ops : Array Oper} {Q : Exit → Act → World → Prop} {md : Region.Mode} {S : World → Prop} {z i : Nat} {o : Oper} {n : Nat} {listed : Array Bool} {a : Act} {w : World} (hr : Region.ready md ops listed = [i]) (ho : ops[i]? = some o) (hw : Region.wanted o (yielded ops a.tmps) = true)
    (h : ∀ K : Act → World → Prop, (∀ a' w', (i ≠ z → S w') → AnyBut P md ops Q S z n (listed.setIfInBounds i true) a' w' → K a' w') → Oper.wp P o a w K Q) : AnyBut P md ops Q S z (n + 1) listed a w := by
  refine ⟨fun e => (by rw [hr] at e; cases e), fun j hj => ?_⟩
  rw [hr] at hj
  obtain rfl : j = i := by simpa using hj
  unfold wpOp
  rw [ho]
  simp only [hw, if_true]
  exact .inl (h _ fun _ _ h1 h2 => ⟨h1, h2⟩)
/-- What is appended: the cells at A, or nothing. -/
def Src22 (w : World) (A : Option Addr) (m : Nat) (news : List Value) : Prop :=
  news.length = m ∧ (0 < m → ∃ ad, A = some ad ∧ ∀ j u, news[j]? = some u → w.cell? (ad.add j) = some u) ∧ (∀ u ∈ news, u.oneCell' = true)
theorem info5 : (Tryd.prog.info? 5).map (fun i => (i.zero, i.size, i.bytes)) = some (some (.int .u8 0), 1, 1) := by kernel_rfl
theorem run_app {w : World} {base : Nat} {v : Value} {n : Nat} {xs : List Value} (hown : w.ownsRow base 5 1 v n xs) {A : Option Addr} {m c : Nat} {news : List Value} (hs : Src22 w A m news) (hc : A = none → c = 0) (hb : n + m ≤ 140737488355328) (hbase : base ≤ w.heap.size) :
    ∃ v' w', (Builtin.append_ #[22, 22] 22 #[v, .slice A m c]).run Tryd.prog w = .ok v' w' ∧ w'.ownsRow base 5 1 v' (n + m) (xs ++ news) ∧ w.grownBy w' v.ownBlock := by
  obtain ⟨i0, hi, hz0, hz1, hz2⟩ := info_parts info5
  obtain ⟨h1, h2, h3⟩ := hs
  cases A with
  | some ad =>
    have hnews : ∀ j u, news[j]? = some u → w.cell? (ad.add j) = some u := fun j u hj => by
      have hl := (List.getElem?_eq_some_iff.1 hj).1
      obtain ⟨ad', e, hc⟩ := h2 (by omega)
      cases e
      exact hc j u hj
    obtain ⟨v', w', hr, ho, hg, _⟩ := run_append_own (P := Tryd.prog) w base 22 22 5 i0 (.int .u8 0) 1 1 Tryd.underlying22 hi hz0 hz1 hz2 rfl (by omega) v n xs hown ad m c news (by omega) hnews h3 (by unfold maxLen; omega) (by omega) hbase
    exact ⟨v', w', hr, ho, hg⟩
  | none =>
    have hm : m = 0 := Nat.eq_zero_of_not_pos fun hp => by obtain ⟨ad, e, _⟩ := h2 hp; cases e
    have hc0 := hc rfl
    subst hm hc0
    have : news = [] := List.eq_nil_of_length_eq_zero h1
    subst this
    exact ⟨v, w, run_append_owned_none (P := Tryd.prog) (w := w) base 22 22 5 i0 1 Tryd.underlying22 hi v n xs hown, by simpa using hown, ⟨rfl, rfl, rfl, Nat.le_refl _, fun _ _ _ => rfl⟩⟩
theorem wp_app {w : World} {o : Oper} {a : Act} {K : Act → World → Prop} {Q : Exit → Act → World → Prop} (s x : Operand) (ho : o.op = .call { callee := .builtin .append, args := #[s, x], argTypes := #[22, 22] }) (hty : o.type = 22)
    (base : Nat) (v : Value) (n : Nat) (xs : List Value) (hs : a.eval s = v) (hown : w.ownsRow base 5 1 v n xs) (A : Option Addr) (m c : Nat) (news : List Value) (hx : a.eval x = .slice A m c) (hsr : Src22 w A m news) (hc : A = none → c = 0) (hb : n + m ≤ 140737488355328) (hbase : base ≤ w.heap.size)
    (h : ∀ v' w', w'.ownsRow base 5 1 v' (n + m) (xs ++ news) → w.grownBy w' v.ownBlock → K (a.put o.dst v') w') : o.wp Tryd.prog a w K Q := by
  obtain ⟨v', w', hr, h2, h3⟩ := run_app hown hsr hc hb hbase
  rw [← hty] at hr
  unfold Oper.wp execOp
  simp only [ho, resolve, invoke, builtin, Sem.run_bind, Sem.run_pure, Result.andThen_ok, List.map_toArray, List.map_cons, List.map_nil, hs, hx]
  rw [hty] at hr ⊢
  simp only [hr]
  exact h v' w' h2 h3
theorem owns_empty (w : World) (base : Nat) (hb : base ≤ w.heap.size) : (w.alloc (.cells #[] 5)).ownsRow base 5 1 (.slice (some ⟨w.heap.size, 0, none⟩) 0 0) 0 [] :=
  World.ownsRow_made w #[] 0 hb (by unfold maxLen; omega) rfl
theorem src_of_blk {w : World} {b T : Nat} {R : List (BitVec 8)} (h : Blk w b T (vbs R)) : Src22 w (some ⟨b, 0, none⟩) R.length (vbs R) :=
  ⟨vbs_len R, fun _ => ⟨⟨b, 0, none⟩, rfl, fun j u hj => by rw [Addr.add_mid, Nat.zero_add]; exact h.cell hj⟩, vbs_one R⟩
theorem src_of_rd {w : World} {B : Nat} {A : Option Addr} {R : List (BitVec 8)} (h : Rd w B A R) : Src22 w A R.length (vbs R) :=
  ⟨vbs_len R, fun hp => by
    obtain ⟨b, o, e, hlt, hc⟩ := h hp
    refine ⟨⟨b, o, none⟩, e, fun j u hj => ?_⟩
    have hl := (List.getElem?_eq_some_iff.1 hj).1
    rw [vbs_len] at hl
    rw [vbs_at hl] at hj
    rw [Addr.add_mid, hc j hl]; exact hj, vbs_one R⟩
/-- A row of the call's own, read as bytes. -/
theorem rd_of_owns {w : World} {base : Nat} {v : Value} {R : List (BitVec 8)} (h : w.ownsRow base 5 1 v R.length (vbs R)) : ∃ A cap, v = .slice A R.length cap ∧ Rd w w.heap.size A R ∧ R.length ≤ cap ∧ cap ≤ 9223372036854775807 ∧ (A = none → cap = 0) := by
  rcases h.2 with ⟨rfl, h0⟩ | ⟨g, cap, cur, rfl, hb, hg, hn, hm, hcs, ht⟩
  · exact ⟨none, 0, by rw [h0], fun hp => by omega, by omega, by omega, fun _ => rfl⟩
  · refine ⟨_, cap, rfl, fun hp => ⟨g, 0, rfl, (Array.getElem?_eq_some_iff.1 hg).1, fun j hj => ?_⟩, hn, by unfold maxLen at hm; omega, fun h => by cases h⟩
    have h1 := h.cells (g := g) rfl j (.int .u8 (Bt (R.getD j 0))) (vbs_at hj)
    rwa [Addr.add_mid] at h1
end Go.Proofs.YtjbjkddgefiicaaDoor
