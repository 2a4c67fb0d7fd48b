/- Lists of arrays of bytes that lie in memory, one behind the other; rows of such arrays of the call's own; slice literals of one or more arrays. -/
import Derived.Test.YtihbmahjdmfjpaaDoorFc
import Derived.Great.BuildSlice
import Derived.Great.FillDense
import Derived.Outline
import Derived.StillTailTactics
namespace Go.Proofs.YtihbmahjdmfjpaaDoor
open Go.RowKit
set_option linter.unusedVariables false
set_option linter.unusedSimpArgs false
set_option maxRecDepth 100000
def LenN (s : Nat) (L : List (List (BitVec 8))) : Prop := ∀ x ∈ L, x.length = s
theorem LenN.flat {s : Nat} : ∀ {L : List (List (BitVec 8))}, LenN s L → L.flatten.length = L.length * s
  | [], _ => by simp
  | x :: L, h => by
    rw [List.flatten_cons, List.length_append, h x (by simp), LenN.flat (L := L) (fun y hy => h y (by simp [hy])), List.length_cons, Nat.add_mul, Nat.one_mul, Nat.add_comm]
theorem LenN.app {s : Nat} {L M : List (List (BitVec 8))} (h : LenN s L) (k : LenN s M) : LenN s (L ++ M) := fun x hx => by
  rcases List.mem_append.1 hx with hx | hx
  · exact h x hx
  · exact k x hx
theorem LenN.one {s : Nat} {x : List (BitVec 8)} (h : x.length = s) : LenN s [x] := fun y hy => by
  obtain rfl : y = x := by simpa using hy
  exact h
theorem LenN.at {s : Nat} {L : List (List (BitVec 8))} (h : LenN s L) {j : Nat} (hj : j < L.length) : (L.getD j []).length = s := by
  have : L.getD j [] = L[j] := by simp [List.getD, hj]
  rw [this]; exact h _ (List.getElem_mem hj)
theorem LenN.take {s : Nat} {L : List (List (BitVec 8))} (h : LenN s L) (n : Nat) : LenN s (L.take n) := fun x hx => h x (List.mem_of_mem_take hx)
theorem LenN.drop {s : Nat} {L : List (List (BitVec 8))} (h : LenN s L) (n : Nat) : LenN s (L.drop n) := fun x hx => h x (List.mem_of_mem_drop hx)
theorem flat_at {s : Nat} : ∀ {L : List (List (BitVec 8))}, LenN s L → ∀ {j i : Nat}, j < L.length → i < s → L.flatten.getD (j * s + i) 0 = (L.getD j []).getD i 0
  | [], _, j, _, hj, _ => by simp at hj
  | x :: L, h, 0, i, _, hi => by
    have hx := h x (by simp)
    simp [List.getD, List.getElem?_append_left (show i < x.length by omega)]
  | x :: L, h, j + 1, i, hj, hi => by
    have hx := h x (by simp)
    have ih := flat_at (L := L) (fun y hy => h y (by simp [hy])) (j := j) (i := i) (by simp at hj; omega) hi
    have e : (j + 1) * s + i = x.length + (j * s + i) := by rw [Nat.add_mul]; omega
    rw [List.flatten_cons, e]
    simp only [List.getD, List.getElem?_append_right (show x.length ≤ x.length + (j * s + i) by omega), Nat.add_sub_cancel_left]
    simpa [List.getD] using ih
theorem flat_take {s : Nat} : ∀ {L : List (List (BitVec 8))}, LenN s L → ∀ (n : Nat), (L.take n).flatten = L.flatten.take (n * s)
  | [], _, n => by simp
  | x :: L, h, 0 => by simp
  | x :: L, h, n + 1 => by
    have hx := h x (by simp)
    have e : (n + 1) * s = x.length + n * s := by rw [hx, Nat.add_mul]; omega
    rw [List.take_succ_cons, List.flatten_cons, List.flatten_cons, flat_take (fun y hy => h y (by simp [hy])) n, e, List.take_length_add_append]
theorem flat_drop {s : Nat} : ∀ {L : List (List (BitVec 8))}, LenN s L → ∀ (n : Nat), (L.drop n).flatten = L.flatten.drop (n * s)
  | [], _, n => by simp
  | x :: L, h, 0 => by simp
  | x :: L, h, n + 1 => by
    have hx := h x (by simp)
    have e : (n + 1) * s = x.length + n * s := by rw [hx, Nat.add_mul]; omega
    rw [List.drop_succ_cons, List.flatten_cons, flat_drop (fun y hy => h y (by simp [hy])) n, e, List.drop_length_add_append]
/-- One of the arrays, as a range of cells. -/
theorem Rd.row {w : World} {B s : Nat} {A : Option Addr} {L : List (List (BitVec 8))} (h : Rd w B A L.flatten) (hs : 0 < s) (hL : LenN s L) {j : Nat} (hj : j < L.length) :
    ∃ b o, A = some ⟨b, o, none⟩ ∧ b < B ∧ ∀ k, k < L.length → w.rangeAt b (o + k * s) (vbs (L.getD k [])) := by
  have hp : 0 < L.flatten.length := by rw [hL.flat]; exact Nat.mul_pos (by omega) hs
  obtain ⟨b, o, e, hb, hc⟩ := h hp
  refine ⟨b, o, e, hb, fun k hk i v hv => ?_⟩
  have hi : i < s := by
    have := (List.getElem?_eq_some_iff.1 hv).1
    rw [vbs_len, hL.at hk] at this; exact this
  rw [vbs_at (by rw [hL.at hk]; exact hi)] at hv
  cases hv
  rw [← flat_at hL hk hi, show o + k * s + i = o + (k * s + i) by omega]
  refine hc _ ?_
  rw [hL.flat]
  have : (k + 1) * s ≤ L.length * s := Nat.mul_le_mul_right s hk
  rw [Nat.add_mul] at this; omega
/-- A row of the call's own: arrays of s bytes, elements of type e. -/
def OF (e s : Nat) (w : World) (B : Nat) (v : Value) (L : List (List (BitVec 8))) : Prop := LenN s L ∧ w.ownsRow B e s v L.length (vbs L.flatten)
theorem OF.nil (e s : Nat) (w : World) (B : Nat) : OF e s w B (.slice none 0 0) [] := ⟨(fun x hx => by cases hx), World.ownsRow_nil w B e s⟩
theorem OF.same {e s : Nat} {w w' : World} {B : Nat} {v : Value} {L : List (List (BitVec 8))} (h : OF e s w B v L) (hk : ∀ g, v.ownBlock = some g → w'.heap[g]? = w.heap[g]?) : OF e s w' B v L := by
  refine ⟨h.1, h.2.1, ?_⟩
  rcases h.2.2 with hn | ⟨g, cap, cur, rfl, hb, hg, r⟩
  · exact .inl hn
  · exact .inr ⟨g, cap, cur, rfl, hb, (hk g rfl).trans hg, r⟩
theorem OF.lt {e s : Nat} {w : World} {B : Nat} {v : Value} {L : List (List (BitVec 8))} (h : OF e s w B v L) {g : Nat} (hg : v.ownBlock = some g) : g < w.heap.size ∧ B ≤ g ∧ ∃ cur m, w.heap[g]? = some (.cells cur e m) := by
  rcases h.2.2 with ⟨rfl, _⟩ | ⟨g', cap, cur, rfl, hb, hg', r⟩
  · cases hg
  · cases hg
    exact ⟨(Array.getElem?_eq_some_iff.1 hg').1, hb, cur, _, hg'⟩
theorem OF.below {e s : Nat} {w w' : World} {B : Nat} {v : Value} {L : List (List (BitVec 8))} (h : OF e s w B v L) (hb : Below w.heap.size w w') : OF e s w' B v L :=
  h.same fun g hg => hb.block g (h.lt hg).1
theorem OF.rd {e s : Nat} {w : World} {B : Nat} {v : Value} {L : List (List (BitVec 8))} (h : OF e s w B v L) : ∃ A cap, v = .slice A L.length cap ∧ Rd w w.heap.size A L.flatten ∧ L.length ≤ cap ∧ cap ≤ 9223372036854775807 ∧ (A = none → cap = 0) := by
  have hf := h.1.flat
  rcases h.2.2 with ⟨rfl, h0⟩ | ⟨g, cap, cur, rfl, hb, hg, hn, hm, hcs, ht⟩
  · exact ⟨none, 0, by rw [h0], fun hp => (by rw [hf, h0] at hp; omega), by omega, by omega, fun _ => rfl⟩
  · refine ⟨_, cap, rfl, fun hp => ⟨g, 0, rfl, (Array.getElem?_eq_some_iff.1 hg).1, fun j hj => ?_⟩, hn, by unfold maxLen at hm; omega, fun h => by cases h⟩
    have h1 := h.2.cells (g := g) rfl j (.int .u8 (Bt (L.flatten.getD j 0))) (vbs_at hj)
    rwa [Addr.add_mid] at h1
theorem run_appF {t e s bytes : Nat} {z : Value} (ht : Tryd.prog.underlying t = some (.slice e)) (hin : (Tryd.prog.info? e).map (fun i => (i.zero, i.size, i.bytes)) = some (some z, s, bytes)) (hz : z.cells.size = s) (hs : 0 < s) (hby : bytes ≤ 100)
    {w : World} {B : Nat} {v : Value} {L : List (List (BitVec 8))} (h : OF e s w B v L) {g T c : Nat} {x : List (BitVec 8)} (hx : x.length = s) (hg : Blk w g T (vbs x)) (hl : L.length ≤ 1000000) (hB : B ≤ w.heap.size) :
    ∃ v' w', (Builtin.append_ #[t, t] t #[v, .slice (some ⟨g, 0, none⟩) 1 c]).run Tryd.prog w = .ok v' w' ∧ OF e s w' B v' (L ++ [x]) ∧ w.grownBy w' v.ownBlock := by
  obtain ⟨i0, hi, hz0, hz1, hz2⟩ := info_parts hin
  obtain ⟨v', w', hr, ho, hgr, _⟩ := run_append_own (P := Tryd.prog) w B t t e i0 z s bytes ht hi hz0 hz1 hz2 hz hs v L.length (vbs L.flatten) h.2 ⟨g, 0, none⟩ 1 c (vbs x) (by rw [vbs_len, hx, Nat.one_mul]) (fun j u hj => by rw [Addr.add_mid, Nat.zero_add]; exact hg.cell hj) (vbs_one x) (by unfold maxLen; omega) (Nat.le_trans (Nat.mul_le_mul_left _ hby) (by omega)) hB
  refine ⟨v', w', hr, ⟨h.1.app (.one hx), ?_⟩, hgr⟩
  have e1 : (L ++ [x]).length = L.length + 1 := by simp
  have e2 : vbs (L ++ [x]).flatten = vbs L.flatten ++ vbs x := by simp [vbs]
  rw [e1, e2]; exact ho
theorem wp_appF {t e s bytes : Nat} {z : Value} (ht : Tryd.prog.underlying t = some (.slice e)) (hin : (Tryd.prog.info? e).map (fun i => (i.zero, i.size, i.bytes)) = some (some z, s, bytes)) (hz : z.cells.size = s) (hs : 0 < s) (hby : bytes ≤ 100)
    {w : World} {o : Oper} {a : Act} {K : Act → World → Prop} {Q : Exit → Act → World → Prop} (d y : Operand) (ho : o.op = .call { callee := .builtin .append, args := #[d, y], argTypes := #[t, t] }) (hty : o.type = t)
    (B : Nat) (v : Value) (L : List (List (BitVec 8))) (hd : a.eval d = v) (h : OF e s w B v L) (g T c : Nat) (x : List (BitVec 8)) (hy : a.eval y = .slice (some ⟨g, 0, none⟩) 1 c) (hx : x.length = s) (hg : Blk w g T (vbs x)) (hl : L.length ≤ 1000000) (hB : B ≤ w.heap.size)
    (hk : ∀ v' w', OF e s w' B v' (L ++ [x]) → w.grownBy w' v.ownBlock → K (a.put o.dst v') w') : o.wp Tryd.prog a w K Q := by
  obtain ⟨v', w', hr, h2, h3⟩ := run_appF (c := c) ht hin hz hs hby h hx hg hl hB
  rw [← hty] at hr
  unfold Oper.wp execOp
  simp only [ho, resolve, invoke, builtin, Sem.run_bind, Sem.run_pure, Result.andThen_ok, List.map_toArray, List.map_cons, List.map_nil, hd, hy]
  rw [hty] at hr ⊢
  simp only [hr]
  exact hk v' w' h2 h3
theorem info25f : (Tryd.prog.info? 25).map (fun i => (i.zero, i.size, i.bytes)) = some (some (.agg (vbs Z32).toArray), 32, 32) := by kernel_rfl
theorem info57f : (Tryd.prog.info? 57).map (fun i => (i.zero, i.size, i.bytes)) = some (some (.agg (vbs Zt64).toArray), 64, 64) := by kernel_rfl
theorem cells_agg (x : List (BitVec 8)) : (Value.agg (vbs x).toArray).cells = (vbs x).toArray := rfl
theorem wp_rows {o : Oper} {a : Act} {w : World} {K : Act → World → Prop} {Q : Exit → Act → World → Prop} (t e s : Nat) (hs : 0 < s) (parts : Array (Nat × Operand)) (L : List (List (BitVec 8))) (hL : LenN s L) (hpos : 0 < L.length) (hsm : L.length * s ≤ 2 ^ 24)
    (ho : o.op = .buildSlice t L.length parts) (hu : Tryd.prog.underlying t = some (.slice e)) (hsz : (Tryd.prog.info? e).map (·.size) = some s) (hz : ((Tryd.prog.info? e).bind (·.zero)).isSome = true)
    (hev : (parts.toList.map fun (i, x) => (i, a.eval x)) = (L.zipIdx 0).map fun x => (x.2, Value.agg (vbs x.1).toArray))
    (h : K (a.put o.dst (.slice (some ⟨w.heap.size, 0, none⟩) L.length L.length)) (w.alloc (.cells (vbs L.flatten).toArray e))) : o.wp Tryd.prog a w K Q := by
  cases hie : Tryd.prog.info? e with
  | none => simp [hie] at hsz
  | some ie =>
    simp only [hie, Option.map_some, Option.some.injEq, Option.bind_some] at hsz hz
    obtain ⟨z, hzz⟩ := Option.isSome_iff_exists.1 hz
    have hp := Nat.mul_pos hpos hs
    refine wp_buildSlice t e L.length parts ho _ ie z hu hie hzz (by rw [hsz]; omega) (by rw [hsz]; omega) ?_ h
    rw [Array.toList_map, hev, hsz]
    have e1 : (L.zipIdx 0).map (fun x => (x.2, Value.agg (vbs x.1).toArray)) = ((L.map fun x => Value.agg (vbs x).toArray).zipIdx 0).map fun x => (x.2, x.1) := by
      rw [List.zipIdx_map, List.map_map]; rfl
    have e2 : (vbs L.flatten).toArray = ((L.map fun x => Value.agg (vbs x).toArray).flatMap fun v => v.cells.toList).toArray := by
      congr 1
      clear hL hpos hsm ho hev h hp e1
      induction L with
      | nil => rfl
      | cons x L ih => rw [List.map_cons, List.flatMap_cons, ← ih, cells_agg]; simp [vbs]
    rw [e1, e2]
    refine Great.fill_whole hs _ _ ?_ (by simp)
    intro v hv
    obtain ⟨x, hx, rfl⟩ := List.mem_map.1 hv
    rw [cells_agg, List.size_toArray, vbs_len, hL x hx]
end Go.Proofs.YtihbmahjdmfjpaaDoor
