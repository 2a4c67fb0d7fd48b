/- Own rows of ints: an append to a row of the call's own. -/
import Derived.Test.YtffngfjbaimbhaaDoorUc
namespace Go.Proofs.YtffngfjbaimbhaaDoor
open Go.RowKit
set_option linter.unusedVariables false
set_option linter.unusedSimpArgs false
def vns (l : List Nat) : List Value := l.map fun (x : Nat) => Value.int .i64 ((x : Nat) : Int)
theorem vns_at {l : List Nat} {j : Nat} (h : j < l.length) : (vns l)[j]? = some (.int .i64 ((l.getD j 0 : Nat) : Int)) := by
  unfold vns; simp [h]
theorem vns_len (l : List Nat) : (vns l).length = l.length := by simp [vns]
theorem vns_set (l : List Nat) (j : Nat) (x : Nat) : (vns l).set j (.int .i64 (x : Int)) = vns (l.set j x) := by
  unfold vns; rw [List.map_set]
theorem vns_one (l : List Nat) : ∀ v ∈ vns l, v.oneCell' = true := by
  intro v hv
  simp only [vns, List.mem_map] at hv
  obtain ⟨x, _, rfl⟩ := hv
  rfl
/-- The slice with address A reads as the digits M, and lies below block B. -/
def RdN (w : World) (B : Nat) (A : Option Addr) (M : List Nat) : Prop :=
  0 < M.length → ∃ b o, A = some ⟨b, o, none⟩ ∧ b < B ∧ ∀ j, j < M.length → w.cell? ⟨b, o + j, none⟩ = some (.int .i64 ((M.getD j 0 : Nat) : Int))
theorem RdN.keep {w w' : World} {B B' : Nat} {A : Option Addr} {M : List Nat} (h : RdN w B A M) (hb : Below B' w w') (hB : B ≤ B') : RdN w' B A M := fun hp => by
  obtain ⟨b, o, e, hlt, hc⟩ := h hp
  exact ⟨b, o, e, hlt, fun j hj => by rw [hb.cell (p := ⟨b, o + j, none⟩) (Nat.lt_of_lt_of_le hlt hB)]; exact hc j hj⟩
theorem RdN.up {w w' : World} {B : Nat} {A : Option Addr} {M : List Nat} (h : RdN w B A M) (hb : Below B w w') (hB : B ≤ w'.heap.size) : RdN w' w'.heap.size A M := fun hp => by
  obtain ⟨b, o, e, hlt, hc⟩ := (h.keep hb (Nat.le_refl _)) hp
  exact ⟨b, o, e, Nat.lt_of_lt_of_le hlt hB, hc⟩
/-- What is appended: the cells at A, or nothing. -/
def Src42 (w : World) (A : Option Addr) (m : Nat) (news : List Value) : Prop :=
  news.length = m ∧ (0 < m → ∃ ad, A = some ad ∧ ∀ j u, news[j]? = some u → w.cell? (ad.add j) = some u) ∧ (∀ u ∈ news, u.oneCell' = true)
theorem infoI3 : (Tryd.prog.info? 3).map (fun i => (i.zero, i.size, i.bytes)) = some (some (.int .i64 0), 1, 8) := by kernel_rfl
theorem run_app42 {w : World} {base : Nat} {v : Value} {n : Nat} {xs : List Value} (hown : w.ownsRow base 3 1 v n xs) {A : Option Addr} {m c : Nat} {news : List Value} (hs : Src42 w A m news) (hc : A = none → c = 0) (hb : n + m ≤ 17592186044416) (hbase : base ≤ w.heap.size) :
    ∃ v' w', (Builtin.append_ #[42, 42] 42 #[v, .slice A m c]).run Tryd.prog w = .ok v' w' ∧ w'.ownsRow base 3 1 v' (n + m) (xs ++ news) ∧ w.grownBy w' v.ownBlock := by
  obtain ⟨i0, hi, hz0, hz1, hz2⟩ := info_parts infoI3
  obtain ⟨h1, h2, h3⟩ := hs
  cases A with
  | some ad =>
    have hnews : ∀ j u, news[j]? = some u → w.cell? (ad.add j) = some u := fun j u hj => by
      have hl := (List.getElem?_eq_some_iff.1 hj).1
      obtain ⟨ad', e, hc⟩ := h2 (by omega)
      cases e
      exact hc j u hj
    obtain ⟨v', w', hr, ho, hg, _⟩ := run_append_own (P := Tryd.prog) w base 42 42 3 i0 (.int .i64 0) 1 8 Tryd.underlying42 hi hz0 hz1 hz2 rfl (by omega) v n xs hown ad m c news (by omega) hnews h3 (by unfold maxLen; omega) (by omega) hbase
    exact ⟨v', w', hr, ho, hg⟩
  | none =>
    have hm : m = 0 := Nat.eq_zero_of_not_pos fun hp => by obtain ⟨ad, e, _⟩ := h2 hp; cases e
    have hc0 := hc rfl
    subst hm hc0
    have : news = [] := List.eq_nil_of_length_eq_zero h1
    subst this
    exact ⟨v, w, run_append_owned_none (P := Tryd.prog) (w := w) base 42 42 3 i0 1 Tryd.underlying42 hi v n xs hown, by simpa using hown, ⟨rfl, rfl, rfl, Nat.le_refl _, fun _ _ _ => rfl⟩⟩
theorem wp_app42 {w : World} {o : Oper} {a : Act} {K : Act → World → Prop} {Q : Exit → Act → World → Prop} (s x : Operand) (ho : o.op = .call { callee := .builtin .append, args := #[s, x], argTypes := #[42, 42] }) (hty : o.type = 42)
    (base : Nat) (v : Value) (n : Nat) (xs : List Value) (hs : a.eval s = v) (hown : w.ownsRow base 3 1 v n xs) (A : Option Addr) (m c : Nat) (news : List Value) (hx : a.eval x = .slice A m c) (hsr : Src42 w A m news) (hc : A = none → c = 0) (hb : n + m ≤ 17592186044416) (hbase : base ≤ w.heap.size)
    (h : ∀ v' w', w'.ownsRow base 3 1 v' (n + m) (xs ++ news) → w.grownBy w' v.ownBlock → K (a.put o.dst v') w') : o.wp Tryd.prog a w K Q := by
  obtain ⟨v', w', hr, h2, h3⟩ := run_app42 hown hsr hc hb hbase
  rw [← hty] at hr
  unfold Oper.wp execOp
  simp only [ho, resolve, invoke, builtin, Sem.run_bind, Sem.run_pure, Result.andThen_ok, List.map_toArray, List.map_cons, List.map_nil, hs, hx]
  rw [hty] at hr ⊢
  simp only [hr]
  exact h v' w' h2 h3
theorem owns_empty42 (w : World) (base : Nat) (hb : base ≤ w.heap.size) : (w.alloc (.cells #[] 3)).ownsRow base 3 1 (.slice (some ⟨w.heap.size, 0, none⟩) 0 0) 0 [] :=
  World.ownsRow_made w #[] 0 hb (by unfold maxLen; omega) rfl
theorem src42_of_blk {w : World} {b T : Nat} {R : List (Nat)} (h : Blk w b T (vns R)) : Src42 w (some ⟨b, 0, none⟩) R.length (vns R) :=
  ⟨vns_len R, fun _ => ⟨⟨b, 0, none⟩, rfl, fun j u hj => by rw [Addr.add_mid, Nat.zero_add]; exact h.cell hj⟩, vns_one R⟩
/-- A row of the call's own, read as bytes. -/
theorem rdn_of_owns {w : World} {base : Nat} {v : Value} {R : List (Nat)} (h : w.ownsRow base 3 1 v R.length (vns R)) : ∃ A cap, v = .slice A R.length cap ∧ RdN w w.heap.size A R ∧ R.length ≤ cap ∧ cap ≤ 9223372036854775807 ∧ (A = none → cap = 0) := by
  rcases h.2 with ⟨rfl, h0⟩ | ⟨g, cap, cur, rfl, hb, hg, hn, hm, hcs, ht⟩
  · exact ⟨none, 0, by rw [h0], fun hp => by omega, by omega, by omega, fun _ => rfl⟩
  · refine ⟨_, cap, rfl, fun hp => ⟨g, 0, rfl, (Array.getElem?_eq_some_iff.1 hg).1, fun j hj => ?_⟩, hn, by unfold maxLen at hm; omega, fun h => by cases h⟩
    have h1 := h.cells (g := g) rfl j (.int .i64 ((R.getD j 0 : Nat) : Int)) (vns_at hj)
    rwa [Addr.add_mid] at h1
theorem wpList_app42 {w : World} {ops : Array Oper} {rest : List Oper} {o : Oper} {a : Act} {Q : Exit → Act → World → Prop} (hgd : o.guard = none) (s x : Operand) (ho : o.op = .call { callee := .builtin .append, args := #[s, x], argTypes := #[42, 42] }) (hty : o.type = 42)
    (base : Nat) (v : Value) (n : Nat) (xs : List Value) (hs : a.eval s = v) (hown : w.ownsRow base 3 1 v n xs) (A : Option Addr) (m c : Nat) (news : List Value) (hx : a.eval x = .slice A m c) (hsr : Src42 w A m news) (hc : A = none → c = 0) (hb : n + m ≤ 17592186044416) (hbase : base ≤ w.heap.size)
    (h : ∀ v' w', w'.ownsRow base 3 1 v' (n + m) (xs ++ news) → w.grownBy w' v.ownBlock → wpList Tryd.prog ops Q rest (a.put o.dst v') w') : wpList Tryd.prog ops Q (o :: rest) a w :=
  wpList_plain hgd fun _ hK => wp_app42 s x ho hty base v n xs hs hown A m c news hx hsr hc hb hbase fun v' w' h2 h3 => hK _ _ (h v' w' h2 h3)
/-- The call's own row v holds the bytes L. -/
def ON (w : World) (B : Nat) (v : Value) (L : List (Nat)) : Prop := w.ownsRow B 3 1 v L.length (vns L)
theorem ON.nil (w : World) (B : Nat) : ON w B (.slice none 0 0) [] := World.ownsRow_nil w B 3 1
theorem ON.below {w w' : World} {B B' : Nat} {v : Value} {L : List (Nat)} (h : ON w B v L) (hb : Below w.heap.size w w') : ON w' B v L := by
  refine ⟨h.1, ?_⟩
  rcases h.2 with hn | ⟨g, cap, cur, rfl, hbb, hgg, rest⟩
  · exact .inl hn
  · exact .inr ⟨g, cap, cur, rfl, hbb, by rw [hb.block g (Array.getElem?_eq_some_iff.1 hgg).1]; exact hgg, rest⟩
theorem ON.alloc {w : World} {B : Nat} {v : Value} {L : List (Nat)} (h : ON w B v L) (o : Obj) : ON (w.alloc o) B v L := World.ownsRow.alloc h o
theorem ON.drew {w : World} {B : Nat} {v : Value} {L : List (Nat)} (h : ON w B v L) : ON w.drew B v L := h
theorem ON.rd {w : World} {B : Nat} {v : Value} {L : List (Nat)} (h : ON w B v L) : ∃ A cap, v = .slice A L.length cap ∧ RdN w w.heap.size A L ∧ L.length ≤ cap ∧ cap ≤ 9223372036854775807 ∧ (A = none → cap = 0) := rdn_of_owns h
/-- Behind an append. -/
theorem ON.app {w0 w w' : World} {B B' : Nat} {v v' : Value} {L M : List (Nat)} (h : ON w B v L) (hb : Below B' w0 w) (hB : B ≤ w.heap.size) (hBB : B' ≤ B) (h2 : w'.ownsRow B 3 1 v' (L.length + M.length) (vns L ++ vns M)) (h3 : w.grownBy w' v.ownBlock) : ON w' B v' (L ++ M) ∧ Below B' w0 w' := by
  refine ⟨?_, hb.grown h3 (Nat.le_trans hBB hB) (fun k hk => Nat.le_trans hBB (World.ownsRow.lt h k hk).1)⟩
  unfold ON
  rw [List.length_append, show vns (L ++ M) = vns L ++ vns M by simp [vns]]
  exact h2
theorem wpList_push42 {w : World} {ops : Array Oper} {rest : List Oper} {o : Oper} {a : Act} {Q : Exit → Act → World → Prop} (hgd : o.guard = none) (s x : Operand) (ho : o.op = .call { callee := .builtin .append, args := #[s, x], argTypes := #[42, 42] }) (hty : o.type = 42)
    (B : Nat) (v : Value) (L M : List (Nat)) (hs : a.eval s = v) (hown : ON w B v L) (A : Option Addr) (m c : Nat) (hx : a.eval x = .slice A m c) (hm : m = M.length) (hsr : Src42 w A M.length (vns M)) (hc : A = none → c = 0) (hb : L.length + M.length ≤ 17592186044416) {w0 : World} {B' : Nat} (hbel : Below B' w0 w) (hB : B ≤ w.heap.size) (hBB : B' ≤ B)
    (h : ∀ v' w', ON w' B v' (L ++ M) → Below B' w0 w' → Below B w w' → wpList Tryd.prog ops Q rest (a.put o.dst v') w') : wpList Tryd.prog ops Q (o :: rest) a w := by
  subst hm
  exact wpList_app42 hgd s x ho hty B v L.length (vns L) hs hown A M.length c (vns M) hx hsr hc hb hB fun v' w' h2 h3 => by
    have hA := ON.app hown hbel hB hBB h2 h3
    exact h v' w' hA.1 hA.2 ((Below.refl B w).grown h3 hB (fun k hk => (World.ownsRow.lt hown k hk).1))
theorem one_len42 (x : Nat) : 1 = [x].length := rfl
theorem src42_one (w : World) (x : Nat) : Src42 (w.alloc (.cells #[.int .i64 ((x : Nat) : Int)] 3)) (some ⟨w.heap.size, 0, none⟩) 1 (vns [x]) :=
  src42_of_blk (Blk.new w 3 #[.int .i64 ((x : Nat) : Int)])
theorem src42_of_rd {w : World} {B : Nat} {A : Option Addr} {M : List (Nat)} (h : RdN w B A M) : Src42 w A M.length (vns M) :=
  ⟨vns_len M, fun hp => by
    obtain ⟨b, o, e, hlt, hc⟩ := h hp
    refine ⟨⟨b, o, none⟩, e, fun j u hj => ?_⟩
    have hl := (List.getElem?_eq_some_iff.1 hj).1
    rw [vns_len] at hl
    rw [vns_at hl] at hj
    rw [Addr.add_mid, hc j hl]; exact hj, vns_one M⟩
theorem all_take_succ (l : List Nat) (f : Nat → Bool) (i : Nat) (h : i < l.length) : (l.take (i + 1)).all f = ((l.take i).all f && f (l.getD i 0)) := by
  rw [List.take_succ_eq_append_getElem h, List.all_append]
  simp [List.getD, h]
theorem prl_step (n : Nat) : (prl n).length ≤ (prl (n + 1)).length := by
  simp only [prl]
  split
  · simp
  · exact Nat.le_refl _
theorem prl_mono (n m : Nat) (h : n ≤ m) : (prl n).length ≤ (prl m).length := by
  induction m with
  | zero => rw [Nat.le_zero.1 h]; exact Nat.le_refl _
  | succ m ih =>
    rcases Nat.lt_or_ge m n with h' | h'
    · rw [show n = m + 1 by omega]; exact Nat.le_refl _
    · exact Nat.le_trans (ih h') (prl_step m)
theorem prl_ge (n : Nat) : ∀ q ∈ prl n, 2 ≤ q ∧ q ≤ n + 1 := by
  induction n with
  | zero => intro q hq; cases hq
  | succ n ih =>
    intro q hq
    simp only [prl] at hq
    split at hq
    · rcases List.mem_append.1 hq with h | h
      · have := ih q h; omega
      · rw [List.mem_singleton] at h; omega
    · have := ih q hq; omega
theorem prl_yes (n : Nat) (h : (prl n).all (fun q => decide ((n + 2) % q ≠ 0)) = true) : prl (n + 1) = prl n ++ [n + 2] := by simp only [prl]; rw [if_pos h]
theorem prl_no (n : Nat) (h : (prl n).all (fun q => decide ((n + 2) % q ≠ 0)) = false) : prl (n + 1) = prl n := by simp only [prl]; rw [if_neg (by rw [h]; decide)]
theorem prl_at (n i : Nat) (h : i < (prl n).length) : 2 ≤ (prl n).getD i 0 ∧ (prl n).getD i 0 ≤ n + 1 := by
  have : (prl n).getD i 0 = (prl n)[i] := by simp [List.getD, h]
  rw [this]; exact prl_ge n _ (List.getElem_mem h)
end Go.Proofs.YtffngfjbaimbhaaDoor
