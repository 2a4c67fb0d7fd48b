/- Blocks of known cells, rows of bytes, appends, and regions that draw their order: plain laws over the loaded program. -/
import Derived.Test.YtihbmahjdmfjpaaDoorProg
import Derived.WalkKit
import Derived.WalkSpells
import Derived.WalkLawsBesides
import Derived.Laws.BitsAllLaws
import Derived.Laws.Shifts
import Derived.Lib.Hide
import Derived.Deep.QuietTactic
import Derived.BigQuiet
import Derived.Deep.RegionHeld3
import Derived.Deep.DeepMust
import Derived.KernelRfl
import Derived.Laws.CopyOwn
import Derived.Laws.Rows
import Derived.Deep.DeepCutAuto
import Derived.Deep.CutRange
import Derived.Laws.AppendOwnNone
import Derived.Lib.ConvBytes
import Derived.Lib.SlBytesConst
import Derived.Lib.MinMax
namespace Go.Proofs.YtihbmahjdmfjpaaDoor
open Go.RowKit
set_option maxRecDepth 100000
set_option linter.unusedVariables false
set_option linter.unusedSimpArgs false
/-- Block b is a row of cells, all known, none frozen. -/
def Blk (w : World) (b : Nat) (T : TypeId) (vs : List Value) : Prop := w.heap[b]? = some (.cells vs.toArray T (0, 0))
theorem Blk.cell {w : World} {b : Nat} {T : TypeId} {vs : List Value} (h : Blk w b T vs) {j : Nat} {v : Value} (hj : vs[j]? = some v) : w.cell? ⟨b, j, none⟩ = some v := by
  unfold Blk at h; simp [World.cell?, h, hj]
theorem Blk.free {w : World} {b : Nat} {T : TypeId} {vs : List Value} (h : Blk w b T vs) (j : Nat) : w.frozen? ⟨b, j, none⟩ = false := by
  unfold Blk at h; simp [World.frozen?, h]
theorem Blk.lt {w : World} {b : Nat} {T : TypeId} {vs : List Value} (h : Blk w b T vs) : b < w.heap.size := by
  unfold Blk at h
  rcases Nat.lt_or_ge b w.heap.size with hlt | hge
  · exact hlt
  · rw [Array.getElem?_eq_none hge] at h; cases h
theorem Blk.new (w : World) (T : TypeId) (vs : Array Value) : Blk (w.alloc (.cells vs T)) w.heap.size T vs.toList := by
  unfold Blk; show (w.heap.push _)[w.heap.size]? = _; rw [Array.getElem?_push_size]
theorem Blk.alloc {w : World} {b : Nat} {T : TypeId} {vs : List Value} (h : Blk w b T vs) (o : Obj) : Blk (w.alloc o) b T vs := by
  have hl := h.lt
  unfold Blk at *; rw [Below.heap_alloc _ _ _ hl]; exact h
theorem Blk.drew {w : World} {b : Nat} {T : TypeId} {vs : List Value} (h : Blk w b T vs) : Blk w.drew b T vs := h
theorem Blk.set {w : World} {b : Nat} {T : TypeId} {vs : List Value} (h : Blk w b T vs) (j : Nat) (v : Value) : Blk (w.setCell ⟨b, j, none⟩ v) b T (vs.set j v) := by
  unfold Blk at *
  have hl := Blk.lt (w := w) (b := b) (T := T) (vs := vs) h
  simp only [World.setCell, Array.getElem?_modify, h]
  simp
theorem Blk.other {w : World} {b : Nat} {T : TypeId} {vs : List Value} (h : Blk w b T vs) {a : Addr} (ha : b ≠ a.block) (v : Value) : Blk (w.setCell a v) b T vs := by
  unfold Blk at *; rw [Below.heap_setCell _ _ _ _ ha]; exact h
theorem Blk.grown {w w' : World} {b : Nat} {T : TypeId} {vs : List Value} (h : Blk w b T vs) {row : Option Nat} (hg : w.grownBy w' row) (hr : some b ≠ row) : Blk w' b T vs := by
  have hl := h.lt
  unfold Blk at *; rw [hg.block b hl hr]; exact h
theorem Blk.below {w w' : World} {b B : Nat} {T : TypeId} {vs : List Value} (h : Blk w b T vs) (hg : Below B w w') (hr : b < B) : Blk w' b T vs := by
  unfold Blk at *; rw [hg.block b hr]; exact h
theorem cell_new {w : World} {vs : Array Value} {T : TypeId} {m : Nat × Nat} {b j : Nat} {v : Value} (hb : b = w.heap.size) (hv : vs[j]? = some v) : (w.alloc (.cells vs T m)).cell? ⟨b, j, none⟩ = some v := by
  subst hb
  show (match (w.heap.push _)[w.heap.size]? with | some (.cells c _ _) => _ | _ => _) = _
  rw [Array.getElem?_push_size]; simpa using hv
theorem cell_alloc {w : World} {a : Addr} {v : Value} (o : Obj) (h : w.cell? a = some v) : (w.alloc o).cell? a = some v := by
  rw [World.cell?_of_block (w := w) (Below.heap_alloc w o a.block (World.block_lt_of_cell? w a h))]; exact h
theorem frozen_alloc {w : World} {a : Addr} {x : Bool} (o : Obj) (hl : a.block < w.heap.size) (h : w.frozen? a = x) : (w.alloc o).frozen? a = x := by
  rw [World.frozen?_of_block (w := w) (Below.heap_alloc w o a.block hl)]; exact h
theorem cell_store_ne {w : World} {a b : Addr} {u v : Value} (hne : b ≠ a) (h : w.cell? a = some v) : (w.setCell b u).cell? a = some v := by
  rw [World.cell?_setCell_other]; · exact h
  · exact hne
theorem ret_int {k : IntKind} {a b : Int} (h : a = b) : Ending.returned (.int k a) = .returned (.int k b) := by rw [h]
/-- A byte, as the model holds it. -/
def Bt (x : BitVec 8) : Int := (x.toNat : Int)
theorem Bt_lo (x : BitVec 8) : 0 ≤ Bt x := Int.natCast_nonneg _
theorem Bt_hi (x : BitVec 8) : Bt x < 256 := by unfold Bt; have := x.isLt; omega
theorem Blk.range {w : World} {b : Nat} {T : TypeId} {vs : List Value} (h : Blk w b T vs) : w.rangeAt b 0 vs := fun j v hv => by
  rw [Nat.zero_add]; exact h.cell hv
theorem Blk.there {w : World} {b : Nat} {T : TypeId} {vs : List Value} (h : Blk w b T vs) : w.there b 0 vs.length := fun j hj => by
  rw [Nat.zero_add]
  exact ⟨by rw [h.cell (List.getElem?_eq_getElem hj)]; rfl, h.free j⟩
theorem Blk.setCells_at (b : Nat) (T : TypeId) : ∀ (us cur pre : List Value) (w : World), us.length = cur.length → Blk w b T (pre ++ cur) → Blk (w.setCells b pre.length us) b T (pre ++ us)
  | [], [], _, _, _, h => h
  | [], _ :: _, _, _, hl, _ => by simp at hl
  | _ :: _, [], _, _, hl, _ => by simp at hl
  | u :: us, c :: cur, pre, w, hl, h => by
    have h1 := h.set pre.length u
    have e : (pre ++ c :: cur).set pre.length u = (pre ++ [u]) ++ cur := by simp
    rw [e] at h1
    have h2 := Blk.setCells_at b T us cur (pre ++ [u]) _ (by simpa using hl) h1
    simpa [World.setCells] using h2
theorem Blk.setCells {w : World} {b : Nat} {T : TypeId} {vs : List Value} (h : Blk w b T vs) (us : List Value) (hl : us.length = vs.length) : Blk (w.setCells b 0 us) b T us :=
  Blk.setCells_at b T us vs [] w hl h
theorem below_setCells {B b : Nat} (hB : B ≤ b) {w0 : World} : ∀ (us : List Value) (o : Nat) (w : World), Below B w0 w → Below B w0 (w.setCells b o us)
  | [], _, _, h => h
  | u :: us, o, w, h => below_setCells hB us (o + 1) _ (h.setCell hB u)
theorem Blk.other_setCells {b' b : Nat} {T : TypeId} {vs : List Value} (hb : b ≠ b') : ∀ (us : List Value) (o : Nat) (w : World), Blk w b T vs → Blk (w.setCells b' o us) b T vs
  | [], _, _, h => h
  | u :: us, o, w, h => Blk.other_setCells hb us (o + 1) _ (h.other hb u)
theorem Blk.load {w : World} {b : Nat} {T : TypeId} {vs : List Value} (h : Blk w b T vs) {P : Program} (ty : TypeId) {d : TypeDesc} (hu : P.underlying ty = some d) (hd : d.isRow = true) {n : Nat} (hi : (P.info? ty).map (·.size) = some n) (hn : vs.length = n) :
    (Instr.loadAt ty (.pointer (some ⟨b, 0, none⟩))).run P w = .ok (.agg vs.toArray) w := run_loadAt_mid w b 0 ty vs d h.range hu hd (by rw [hn]; exact hi)
theorem Blk.store {w : World} {b : Nat} {T : TypeId} {vs : List Value} (h : Blk w b T vs) {P : Program} (ty : TypeId) (us : List Value) {n : Nat} (hi : (P.info? ty).map (·.size) = some n) (hn : vs.length = n) (hl : us.length = n) (h1 : ∀ v ∈ us, v.oneCell' = true) :
    (Instr.storeAt ty (.pointer (some ⟨b, 0, none⟩)) (.agg us.toArray)).run P w = .ok () (w.setCells b 0 us) := by
  have := run_storeAt_mid w b 0 ty us.toArray (P := P) (by rw [List.size_toArray, hl, ← hn]; exact h.there) (by rw [List.size_toArray, hl]; exact hi) (all_oneCell_toArray h1)
  simpa using this
def vbs (l : List (BitVec 8)) : List Value := l.map fun x => Value.int .u8 (Bt x)
theorem vbs_at {l : List (BitVec 8)} {j : Nat} (h : j < l.length) : (vbs l)[j]? = some (.int .u8 (Bt (l.getD j 0))) := by
  unfold vbs; simp [h]
/-- The slice with address A reads as the bytes R, and lies below block B. -/
def Rd (w : World) (B : Nat) (A : Option Addr) (R : List (BitVec 8)) : Prop :=
  0 < R.length → ∃ b o, A = some ⟨b, o, none⟩ ∧ b < B ∧ ∀ j, j < R.length → w.cell? ⟨b, o + j, none⟩ = some (.int .u8 (Bt (R.getD j 0)))
theorem Rd.keep {w w' : World} {B : Nat} {A : Option Addr} {R : List (BitVec 8)} (h : Rd w B A R) (hb : Below B w w') : Rd w' B A R := fun hp => by
  obtain ⟨b, o, e, hlt, hc⟩ := h hp
  exact ⟨b, o, e, hlt, fun j hj => by rw [hb.cell (p := ⟨b, o + j, none⟩) hlt]; exact hc j hj⟩
theorem vbs_set (l : List (BitVec 8)) (j : Nat) (x : BitVec 8) : (vbs l).set j (.int .u8 (Bt x)) = vbs (l.set j x) := by
  unfold vbs; rw [List.map_set]
theorem vbs_len (l : List (BitVec 8)) : (vbs l).length = l.length := by simp [vbs]
theorem splice_pad (n : Nat) (R : List (BitVec 8)) : splice (vbs (List.replicate n 0)) 0 (vbs R) = vbs (R ++ List.replicate (n - R.length) 0) := by
  simp [splice, vbs]
theorem vbs_one (l : List (BitVec 8)) : ∀ v ∈ vbs l, v.oneCell' = true := by
  intro v hv
  simp only [vbs, List.mem_map] at hv
  obtain ⟨x, _, rfl⟩ := hv
  rfl
theorem there_arr {w : World} {b n : Nat} {vs : List Value} (h : w.there b 0 n) (hl : vs.length = n) : w.there b 0 vs.toArray.size := by rw [List.size_toArray, hl]; exact h
theorem info_arr {x : Option Nat} {vs : List Value} (h : x = some vs.length) : x = some vs.toArray.size := by rw [List.size_toArray]; exact h
theorem Rd.keep' {w w' : World} {B B' : Nat} {A : Option Addr} {R : List (BitVec 8)} (h : Rd w B A R) (hb : Below B' w w') (hB : B ≤ B') : Rd w' B A R := fun hp => by
  obtain ⟨b, o, e, hlt, hc⟩ := h hp
  exact ⟨b, o, e, hlt, fun j hj => by rw [hb.cell (p := ⟨b, o + j, none⟩) (Nat.lt_of_lt_of_le hlt hB)]; exact hc j hj⟩
theorem Rd.up {w : World} {B B' : Nat} {A : Option Addr} {R : List (BitVec 8)} (h : Rd w B A R) (hB : B ≤ B') : Rd w B' A R := fun hp => by
  obtain ⟨b, o, e, hlt, hc⟩ := h hp
  exact ⟨b, o, e, Nat.lt_of_lt_of_le hlt hB, hc⟩
section
variable {P : Program} {ops : Array Oper} {Q : Exit → Act → World → Prop} {md : Region.Mode} {S : World → Prop}
/-- Whatever order is drawn from here on; behind each operation but number z the condition S holds. -/
def AnyBut (P : Program) (md : Region.Mode) (ops : Array Oper) (Q : Exit → Act → World → Prop) (S : World → Prop) (z : Nat) : Nat → Array Bool → Act → World → Prop
  | 0, listed, a, w => Region.ready md ops listed = [] ∧ Q .normal a w
  | n + 1, listed, a, w => (Region.ready md ops listed = [] → Q .normal a w) ∧
      ∀ i ∈ Region.ready md ops listed, wpOp P ops Q i (fun a' w' => (i ≠ z → S w') ∧ AnyBut P md ops Q S z n (listed.setIfInBounds i true) a' w') a w
theorem AnyBut.any {z : Nat} : ∀ (n : Nat) (listed : Array Bool) (a : Act) (w : World), AnyBut P md ops Q S z n listed a w → wpAny P md ops Q n listed a w
  | 0, _, _, _, h => h
  | n + 1, _, _, _, h => ⟨h.1, fun i hi => wpOp_mono (fun a' w' h' => AnyBut.any n _ a' w' h'.2) (h.2 i hi)⟩
/-- Does operation z wait for operation i? -/
def waits (md : Region.Mode) (ops : Array Oper) (z i : Nat) : Bool := match ops[z]? with
  | some o => o.after.any fun e => Region.binds md e && e.on == i
  | none => false
theorem not_ready_of_waits {z i : Nat} {listed : Array Bool} (hw : waits md ops z i = true) (hi : i ∈ Region.ready md ops listed) : z ∉ Region.ready md ops listed := by
  intro hz
  obtain ⟨_, oz, hoz, hall⟩ := mem_ready.1 hz
  unfold waits at hw
  rw [hoz] at hw
  obtain ⟨e, he, hb⟩ := Array.any_eq_true'.1 hw
  simp only [Bool.and_eq_true, beq_iff_eq] at hb
  have h1 := hall e he hb.1
  have h0 := (mem_ready.1 hi).1
  rw [hb.2] at h1
  rcases Nat.lt_or_ge i listed.size with h' | h'
  · simp [h'] at h0 h1; rw [h0] at h1; cases h1
  · simp [Array.getElem?_eq_none h'] at h1
theorem AnyBut.first {z i : Nat} {oi : Oper} {v : Value} (hi : ops[i]? = some oi) (hsel : ∀ (j : Nat) (o : Oper) cs b, ops[j]? = some o → o.op ≠ .select cs b)
    (hQ : ∀ c a w, Q (.panic c) (a.put oi.dst v) w → Q (.panic c) a w) (hz : waits md ops z i = true) :
    ∀ (n : Nat) (listed : Array Bool) (a : Act) (w : World),
      (∀ j oj, ops[j]? = some oj → j ≠ i → listed.getD j true = false → (∀ e ∈ oj.after, Region.binds md e = true → e.on ≠ i) → oi.apart ops oj = true) →
      i ∈ Region.ready md ops listed → YieldsIf P ops S oi v a → S w →
      AnyBut P md ops Q S z n (listed.setIfInBounds i true) (a.put oi.dst v) w → AnyBut P md ops Q S z (n + 1) listed a w
  | 0, listed, a, w, _, hr, hy, hS, H => by
    refine ⟨fun h => (by rw [h] at hr; cases hr), fun j hj => ?_⟩
    by_cases hji : j = i
    · subst hji; exact hy.wpOp hi hS ⟨fun _ => hS, H⟩
    · have hm := ready_mono hj hji
      rw [H.1] at hm
      cases hm
  | n + 1, listed, a, w, hfree, hr, hy, hS, H => by
    refine ⟨fun h => (by rw [h] at hr; cases hr), fun j hj => ?_⟩
    by_cases hji : j = i
    · subst hji; exact hy.wpOp hi hS ⟨fun _ => hS, H⟩
    · have hjz : j ≠ z := fun e => not_ready_of_waits hz hr (e ▸ hj)
      obtain ⟨hjun, oj, hoj, hall⟩ := mem_ready.1 hj
      have hno : ∀ e ∈ oj.after, Region.binds md e = true → e.on ≠ i := fun e he hb heq => by
        have hw : waits md ops j i = true := by
          unfold waits
          rw [hoj]
          exact Array.any_eq_true'.2 ⟨e, he, by simp [hb, heq]⟩
        exact not_ready_of_waits hw hr hj
      have h2 := wpOp_putIf hoj (hfree j oj hoj hji hjun hno) (fun cs b => hsel i oi cs b hi) (fun cs b => hsel j oj cs b hoj) hQ hy (H.2 j (ready_mono hj hji))
      refine wpOp_mono (fun a' w' h3 => ⟨h3.2.1, AnyBut.first hi hsel hQ hz n (listed.setIfInBounds j true) a' w' (fun k ok hk hki hun hne => hfree k ok hk hki ?_ hne) (ready_mono hr (Ne.symm hji)) h3.1 (h3.2.1 hjz) ?_⟩) h2
      · by_cases hjk : j = k
        · subst hjk; exact hjun
        · rwa [getD_set_ne true hjk] at hun
      · rw [Array.setIfInBounds_comm _ _ hji]
        exact h3.2.2
theorem AnyBut.take {z i : Nat} {oi : Oper} {v : Value} {n : Nat} {listed : Array Bool} {a : Act} {w : World} (hi : ops[i]? = some oi)
    (hs : Region.noSelect ops = true) (hf : Region.free md ops listed i = true) (hr : (Region.ready md ops listed).contains i = true) (hz : waits md ops z i = true)
    (hQ : ∀ c a w, Q (.panic c) (a.put oi.dst v) w → Q (.panic c) a w) (hy : YieldsIf P ops S oi v a) (hS : S w)
    (h : AnyBut P md ops Q S z n (listed.setIfInBounds i true) (a.put oi.dst v) w) : AnyBut P md ops Q S z (n + 1) listed a w :=
  AnyBut.first hi (Region.noSelect_spec hs) hQ hz n listed a w (Region.free_spec hi hf) (by simpa using hr) hy hS h
theorem AnyBut.one {z i : Nat} {o : Oper} {n : Nat} {listed : Array Bool} {a : Act} {w : World} (hr : Region.ready md ops listed = [i]) (ho : ops[i]? = some o) (hg : o.guard = none)
    (h : ∀ K : Act → World → Prop, (∀ a' w', (i ≠ z → S w') → AnyBut P md ops Q S z n (listed.setIfInBounds i true) a' w' → K a' w') → Oper.wp P o a w K Q) : AnyBut P md ops Q S z (n + 1) listed a w := by
  refine ⟨fun e => (by rw [hr] at e; cases e), fun j hj => ?_⟩
  rw [hr] at hj
  obtain rfl : j = i := by simpa using hj
  unfold wpOp
  rw [ho]
  have hw : Region.wanted o (yielded ops a.tmps) = true := by unfold Region.wanted; rw [hg]
  simp only [hw, if_true]
  exact .inl (h _ fun _ _ h1 h2 => ⟨h1, h2⟩)
theorem AnyBut.two {z i k : Nat} {o p : Oper} {n : Nat} {listed : Array Bool} {a : Act} {w : World} (hr : Region.ready md ops listed = [i, k]) (ho : ops[i]? = some o) (hg : o.guard = none) (hp : ops[k]? = some p) (hgp : p.guard = none)
    (h : ∀ K : Act → World → Prop, (∀ a' w', (i ≠ z → S w') → AnyBut P md ops Q S z n (listed.setIfInBounds i true) a' w' → K a' w') → Oper.wp P o a w K Q)
    (h2 : ∀ K : Act → World → Prop, (∀ a' w', (k ≠ z → S w') → AnyBut P md ops Q S z n (listed.setIfInBounds k true) a' w' → K a' w') → Oper.wp P p a w K Q) : AnyBut P md ops Q S z (n + 1) listed a w := by
  refine ⟨fun e => (by rw [hr] at e; cases e), fun j hj => ?_⟩
  rw [hr] at hj
  have hj' : j = i ∨ j = k := by simpa using hj
  rcases hj' with rfl | rfl
  · unfold wpOp
    rw [ho]
    have hw : Region.wanted o (yielded ops a.tmps) = true := by unfold Region.wanted; rw [hg]
    simp only [hw, if_true]
    exact .inl (h _ fun _ _ h1 h2 => ⟨h1, h2⟩)
  · unfold wpOp
    rw [hp]
    have hw : Region.wanted p (yielded ops a.tmps) = true := by unfold Region.wanted; rw [hgp]
    simp only [hw, if_true]
    exact .inl (h2 _ fun _ _ h1 h2 => ⟨h1, h2⟩)
theorem AnyBut.done {z : Nat} {listed : Array Bool} {a : Act} {w : World} (hr : Region.ready md ops listed = []) (h : Q .normal a w) : ∀ n, AnyBut P md ops Q S z n listed a w
  | 0 => ⟨hr, h⟩
  | _ + 1 => ⟨fun _ => h, by rw [hr]; simp⟩
theorem wp_region_but {id z : Nat} {a : Act} {w : World} (S : World → Prop) (hm : P.follows .mixedOrders = true)
    (h : AnyBut P .any ops Q S z ops.size (Array.replicate ops.size false) a w.drew) : (Code.region id ops true).wp P Q a w :=
  wp_region_any hm (AnyBut.any _ _ _ _ h)
end
theorem wp_calm {P : Program} {c : Code} {K : Act → World → Prop} {Q' : Exit → Act → World → Prop} {a : Act} {w : World}
    (h : c.wp P (Exit.then K fun _ _ _ => False) a w) : c.wp P (Exit.then K Q') a w :=
  Code.wp_mono (fun e a w q => by cases e <;> first | exact q | exact q.elim) h
theorem AnyBut.gone {P : Program} {ops : Array Oper} {Q : Exit → Act → World → Prop} {md : Region.Mode} {S : World → Prop} {z i : Nat} {o : Oper} {n : Nat} {listed : Array Bool} {a : Act} {w : World} (hr : Region.ready md ops listed = [i]) (ho : ops[i]? = some o) (hw : Region.wanted o (yielded ops a.tmps) = true)
    (h : ∀ K : Act → World → Prop, (∀ a' w', (i ≠ z → S w') → AnyBut P md ops Q S z n (listed.setIfInBounds i true) a' w' → K a' w') → Oper.wp P o a w K Q) : AnyBut P md ops Q S z (n + 1) listed a w := by
  refine ⟨fun e => (by rw [hr] at e; cases e), fun j hj => ?_⟩
  rw [hr] at hj
  obtain rfl : j = i := by simpa using hj
  unfold wpOp
  rw [ho]
  simp only [hw, if_true]
  exact .inl (h _ fun _ _ h1 h2 => ⟨h1, h2⟩)
/-- What is appended: the cells at A, or nothing. -/
def Src22 (w : World) (A : Option Addr) (m : Nat) (news : List Value) : Prop :=
  news.length = m ∧ (0 < m → ∃ ad, A = some ad ∧ ∀ j u, news[j]? = some u → w.cell? (ad.add j) = some u) ∧ (∀ u ∈ news, u.oneCell' = true)
theorem info5 : (Tryd.prog.info? 5).map (fun i => (i.zero, i.size, i.bytes)) = some (some (.int .u8 0), 1, 1) := by kernel_rfl
theorem run_app {w : World} {base : Nat} {v : Value} {n : Nat} {xs : List Value} (hown : w.ownsRow base 5 1 v n xs) {A : Option Addr} {m c : Nat} {news : List Value} (hs : Src22 w A m news) (hc : A = none → c = 0) (hb : n + m ≤ 140737488355328) (hbase : base ≤ w.heap.size) :
    ∃ v' w', (Builtin.append_ #[54, 54] 54 #[v, .slice A m c]).run Tryd.prog w = .ok v' w' ∧ w'.ownsRow base 5 1 v' (n + m) (xs ++ news) ∧ w.grownBy w' v.ownBlock := by
  obtain ⟨i0, hi, hz0, hz1, hz2⟩ := info_parts info5
  obtain ⟨h1, h2, h3⟩ := hs
  cases A with
  | some ad =>
    have hnews : ∀ j u, news[j]? = some u → w.cell? (ad.add j) = some u := fun j u hj => by
      have hl := (List.getElem?_eq_some_iff.1 hj).1
      obtain ⟨ad', e, hc⟩ := h2 (by omega)
      cases e
      exact hc j u hj
    obtain ⟨v', w', hr, ho, hg, _⟩ := run_append_own (P := Tryd.prog) w base 54 54 5 i0 (.int .u8 0) 1 1 Tryd.underlying54 hi hz0 hz1 hz2 rfl (by omega) v n xs hown ad m c news (by omega) hnews h3 (by unfold maxLen; omega) (by omega) hbase
    exact ⟨v', w', hr, ho, hg⟩
  | none =>
    have hm : m = 0 := Nat.eq_zero_of_not_pos fun hp => by obtain ⟨ad, e, _⟩ := h2 hp; cases e
    have hc0 := hc rfl
    subst hm hc0
    have : news = [] := List.eq_nil_of_length_eq_zero h1
    subst this
    exact ⟨v, w, run_append_owned_none (P := Tryd.prog) (w := w) base 54 54 5 i0 1 Tryd.underlying54 hi v n xs hown, by simpa using hown, ⟨rfl, rfl, rfl, Nat.le_refl _, fun _ _ _ => rfl⟩⟩
theorem wp_app {w : World} {o : Oper} {a : Act} {K : Act → World → Prop} {Q : Exit → Act → World → Prop} (s x : Operand) (ho : o.op = .call { callee := .builtin .append, args := #[s, x], argTypes := #[54, 54] }) (hty : o.type = 54)
    (base : Nat) (v : Value) (n : Nat) (xs : List Value) (hs : a.eval s = v) (hown : w.ownsRow base 5 1 v n xs) (A : Option Addr) (m c : Nat) (news : List Value) (hx : a.eval x = .slice A m c) (hsr : Src22 w A m news) (hc : A = none → c = 0) (hb : n + m ≤ 140737488355328) (hbase : base ≤ w.heap.size)
    (h : ∀ v' w', w'.ownsRow base 5 1 v' (n + m) (xs ++ news) → w.grownBy w' v.ownBlock → K (a.put o.dst v') w') : o.wp Tryd.prog a w K Q := by
  obtain ⟨v', w', hr, h2, h3⟩ := run_app hown hsr hc hb hbase
  rw [← hty] at hr
  unfold Oper.wp execOp
  simp only [ho, resolve, invoke, builtin, Sem.run_bind, Sem.run_pure, Result.andThen_ok, List.map_toArray, List.map_cons, List.map_nil, hs, hx]
  rw [hty] at hr ⊢
  simp only [hr]
  exact h v' w' h2 h3
theorem owns_empty (w : World) (base : Nat) (hb : base ≤ w.heap.size) : (w.alloc (.cells #[] 5)).ownsRow base 5 1 (.slice (some ⟨w.heap.size, 0, none⟩) 0 0) 0 [] :=
  World.ownsRow_made w #[] 0 hb (by unfold maxLen; omega) rfl
theorem src_of_blk {w : World} {b T : Nat} {R : List (BitVec 8)} (h : Blk w b T (vbs R)) : Src22 w (some ⟨b, 0, none⟩) R.length (vbs R) :=
  ⟨vbs_len R, fun _ => ⟨⟨b, 0, none⟩, rfl, fun j u hj => by rw [Addr.add_mid, Nat.zero_add]; exact h.cell hj⟩, vbs_one R⟩
theorem src_of_rd {w : World} {B : Nat} {A : Option Addr} {R : List (BitVec 8)} (h : Rd w B A R) : Src22 w A R.length (vbs R) :=
  ⟨vbs_len R, fun hp => by
    obtain ⟨b, o, e, hlt, hc⟩ := h hp
    refine ⟨⟨b, o, none⟩, e, fun j u hj => ?_⟩
    have hl := (List.getElem?_eq_some_iff.1 hj).1
    rw [vbs_len] at hl
    rw [vbs_at hl] at hj
    rw [Addr.add_mid, hc j hl]; exact hj, vbs_one R⟩
/-- A row of the call's own, read as bytes. -/
theorem rd_of_owns {w : World} {base : Nat} {v : Value} {R : List (BitVec 8)} (h : w.ownsRow base 5 1 v R.length (vbs R)) : ∃ A cap, v = .slice A R.length cap ∧ Rd w w.heap.size A R ∧ R.length ≤ cap ∧ cap ≤ 9223372036854775807 ∧ (A = none → cap = 0) := by
  rcases h.2 with ⟨rfl, h0⟩ | ⟨g, cap, cur, rfl, hb, hg, hn, hm, hcs, ht⟩
  · exact ⟨none, 0, by rw [h0], fun hp => by omega, by omega, by omega, fun _ => rfl⟩
  · refine ⟨_, cap, rfl, fun hp => ⟨g, 0, rfl, (Array.getElem?_eq_some_iff.1 hg).1, fun j hj => ?_⟩, hn, by unfold maxLen at hm; omega, fun h => by cases h⟩
    have h1 := h.cells (g := g) rfl j (.int .u8 (Bt (R.getD j 0))) (vbs_at hj)
    rwa [Addr.add_mid] at h1
/-- The string of some bytes. -/
def strB (L : List (BitVec 8)) : ByteArray := (L.map Bt).foldl (fun r n => r.push (UInt8.ofNat n.toNat)) ByteArray.empty
theorem wpList_app {w : World} {ops : Array Oper} {rest : List Oper} {o : Oper} {a : Act} {Q : Exit → Act → World → Prop} (hgd : o.guard = none) (s x : Operand) (ho : o.op = .call { callee := .builtin .append, args := #[s, x], argTypes := #[54, 54] }) (hty : o.type = 54)
    (base : Nat) (v : Value) (n : Nat) (xs : List Value) (hs : a.eval s = v) (hown : w.ownsRow base 5 1 v n xs) (A : Option Addr) (m c : Nat) (news : List Value) (hx : a.eval x = .slice A m c) (hsr : Src22 w A m news) (hc : A = none → c = 0) (hb : n + m ≤ 140737488355328) (hbase : base ≤ w.heap.size)
    (h : ∀ v' w', w'.ownsRow base 5 1 v' (n + m) (xs ++ news) → w.grownBy w' v.ownBlock → wpList Tryd.prog ops Q rest (a.put o.dst v') w') : wpList Tryd.prog ops Q (o :: rest) a w :=
  wpList_plain hgd fun _ hK => wp_app s x ho hty base v n xs hs hown A m c news hx hsr hc hb hbase fun v' w' h2 h3 => hK _ _ (h v' w' h2 h3)
/-- The call's own row v holds the bytes L. -/
def OB (w : World) (B : Nat) (v : Value) (L : List (BitVec 8)) : Prop := w.ownsRow B 5 1 v L.length (vbs L)
theorem OB.nil (w : World) (B : Nat) : OB w B (.slice none 0 0) [] := World.ownsRow_nil w B 5 1
theorem OB.below {w w' : World} {B B' : Nat} {v : Value} {L : List (BitVec 8)} (h : OB w B v L) (hb : Below w.heap.size w w') : OB w' B v L := by
  refine ⟨h.1, ?_⟩
  rcases h.2 with hn | ⟨g, cap, cur, rfl, hbb, hgg, rest⟩
  · exact .inl hn
  · exact .inr ⟨g, cap, cur, rfl, hbb, by rw [hb.block g (Array.getElem?_eq_some_iff.1 hgg).1]; exact hgg, rest⟩
theorem OB.alloc {w : World} {B : Nat} {v : Value} {L : List (BitVec 8)} (h : OB w B v L) (o : Obj) : OB (w.alloc o) B v L := World.ownsRow.alloc h o
theorem OB.drew {w : World} {B : Nat} {v : Value} {L : List (BitVec 8)} (h : OB w B v L) : OB w.drew B v L := h
theorem OB.rd {w : World} {B : Nat} {v : Value} {L : List (BitVec 8)} (h : OB w B v L) : ∃ A cap, v = .slice A L.length cap ∧ Rd w w.heap.size A L ∧ L.length ≤ cap ∧ cap ≤ 9223372036854775807 ∧ (A = none → cap = 0) := rd_of_owns h
/-- Behind an append. -/
theorem OB.app {w0 w w' : World} {B B' : Nat} {v v' : Value} {L M : List (BitVec 8)} (h : OB w B v L) (hb : Below B' w0 w) (hB : B ≤ w.heap.size) (hBB : B' ≤ B) (h2 : w'.ownsRow B 5 1 v' (L.length + M.length) (vbs L ++ vbs M)) (h3 : w.grownBy w' v.ownBlock) : OB w' B v' (L ++ M) ∧ Below B' w0 w' := by
  refine ⟨?_, hb.grown h3 (Nat.le_trans hBB hB) (fun k hk => Nat.le_trans hBB (World.ownsRow.lt h k hk).1)⟩
  unfold OB
  rw [List.length_append, show vbs (L ++ M) = vbs L ++ vbs M by simp [vbs]]
  exact h2
theorem wpList_push {w : World} {ops : Array Oper} {rest : List Oper} {o : Oper} {a : Act} {Q : Exit → Act → World → Prop} (hgd : o.guard = none) (s x : Operand) (ho : o.op = .call { callee := .builtin .append, args := #[s, x], argTypes := #[54, 54] }) (hty : o.type = 54)
    (B : Nat) (v : Value) (L M : List (BitVec 8)) (hs : a.eval s = v) (hown : OB w B v L) (A : Option Addr) (m c : Nat) (hx : a.eval x = .slice A m c) (hm : m = M.length) (hsr : Src22 w A M.length (vbs M)) (hc : A = none → c = 0) (hb : L.length + M.length ≤ 140737488355328) {w0 : World} {B' : Nat} (hbel : Below B' w0 w) (hB : B ≤ w.heap.size) (hBB : B' ≤ B)
    (h : ∀ v' w', OB w' B v' (L ++ M) → Below B' w0 w' → Below B w w' → wpList Tryd.prog ops Q rest (a.put o.dst v') w') : wpList Tryd.prog ops Q (o :: rest) a w := by
  subst hm
  exact wpList_app hgd s x ho hty B v L.length (vbs L) hs hown A M.length c (vbs M) hx hsr hc hb hB fun v' w' h2 h3 => by
    have hA := OB.app hown hbel hB hBB h2 h3
    exact h v' w' hA.1 hA.2 ((Below.refl B w).grown h3 hB (fun k hk => (World.ownsRow.lt hown k hk).1))
theorem one_len (x : BitVec 8) : 1 = [x].length := rfl
theorem src_one (w : World) (x : BitVec 8) : Src22 (w.alloc (.cells #[.int .u8 (Bt x)] 5)) (some ⟨w.heap.size, 0, none⟩) 1 (vbs [x]) :=
  src_of_blk (Blk.new w 5 #[.int .u8 (Bt x)])
theorem run_conv_slice {P : Program} (w : World) (hu22 : P.underlying 54 = some (.slice 5)) (hu5 : P.underlying 5 = some (.int .u8)) (hu9 : P.underlying 9 = some .string) (A : Option Addr) (L : List (BitVec 8)) (n c : Nat) (hn : n = L.length) (B : Nat) (h : Rd w B A L) : (convert 54 9 (.slice A n c)).run P w = .ok (.string (strB L)) w := by
  subst hn
  cases L with
  | nil =>
    cases A with
    | none => rw [run_convert_bytes_string w 54 9 5 _ _ _ hu22 hu5 hu9]; rfl
    | some a =>
      rw [run_convert_bytes_string w 54 9 5 _ _ _ hu22 hu5 hu9]
      exact run_bytesToString w a 0 c [] rfl
  | cons x L =>
    obtain ⟨b, o, rfl, hlt, hc⟩ := h (by simp)
    rw [run_convert_bytes_string w 54 9 5 _ _ _ hu22 hu5 hu9]
    have hl : (loadCells ⟨b, o, none⟩ (x :: L).length).run P w = .ok (((x :: L).map Bt).map (Value.int .u8)).toArray w := by
      have := run_loadCells_list (P := P) w ⟨b, o, none⟩ (vbs (x :: L)) (fun j v hv => by
        have hl := (List.getElem?_eq_some_iff.1 hv).1
        rw [vbs_len] at hl
        rw [vbs_at hl] at hv
        rw [Addr.add_mid, hc j hl]; exact hv)
      rw [vbs_len] at this
      rw [this]
      simp [vbs]
    exact run_bytesToString w ⟨b, o, none⟩ _ _ ((x :: L).map Bt) hl
def bytesOf (s : ByteArray) : List (BitVec 8) := s.data.toList.map UInt8.toBitVec
theorem bytesOf_len (s : ByteArray) : (bytesOf s).length = s.size := by
  show (s.data.toList.map UInt8.toBitVec).length = s.data.size
  rw [List.length_map, Array.length_toList]
theorem grown_ge (w : World) (n m : Nat) (e : TypeId) : n ≤ grownCap w n m e := by
  unfold grownCap
  simp only [Question.cut]
  omega
theorem conv_str (s : ByteArray) (w : World) : ∃ w1 c, (convert 9 54 (.string s)).run Tryd.prog w = .ok (.slice (some ⟨w.heap.size, 0, none⟩) (bytesOf s).length c) w1 ∧ Below w.heap.size w w1 ∧
    Rd w1 w1.heap.size (some ⟨w.heap.size, 0, none⟩) (bytesOf s) ∧ (bytesOf s).length ≤ c := by
  refine ⟨Lib.bytesWorld w 5 s, grownCap w s.size 0 5, ?_, ?_, ?_, ?_⟩
  · rw [bytesOf_len]; exact Lib.run_convert_string_bytes w 9 54 5 s Tryd.underlying9 Tryd.underlying54 Tryd.underlying5
  · exact ⟨rfl, rfl, rfl, by rw [Lib.bytesWorld_size]; omega, fun k hk => Lib.bytesWorld_at_old w 5 s k hk⟩
  · intro hp
    refine ⟨w.heap.size, 0, rfl, by rw [Lib.bytesWorld_size]; omega, fun j hj => ?_⟩
    rw [Nat.zero_add, Lib.bytesWorld_cell w 5 s j (by rwa [bytesOf_len] at hj)]
    have hj2 : j < s.data.toList.length := by rw [bytesOf_len] at hj; rw [Array.length_toList]; exact hj
    simp [bytesOf, Bt, List.getD, hj2]
  · rw [bytesOf_len]; exact grown_ge _ _ _ _
/-- A slice of bytes that came in: nil, or a row of cells. -/
def IsRow (w : World) (a : Option Addr) (len cap : Nat) (zs : List Int) : Prop :=
  (a = none ∧ len = 0 ∧ cap = 0 ∧ zs = []) ∨
  ∃ x, a = some x ∧ len ≤ cap ∧ cap ≤ maxLen ∧ zs.length = cap ∧ (∀ i, i < zs.length → w.cell? (x.add i) = some (.int .u8 (zs.getD i 0))) ∧ ∀ n ∈ zs, (Lit.int .u8 n).wf = true
theorem byte_of {z : Int} (h : (Lit.int .u8 z).wf = true) : Bt (BitVec.ofInt 8 z) = z := by
  have hb : 0 ≤ z ∧ z ≤ 255 := by
    have := h
    simp [Lit.wf, IntKind.min, IntKind.max, IntKind.signed, IntKind.bits] at this
    omega
  unfold Bt
  rw [BitVec.toNat_ofInt]
  omega
theorem rd_of_row {w : World} {a : Option Addr} {len cap : Nat} {zs : List Int} (h : IsRow w a len cap zs) : ∃ R : List (BitVec 8), R.length = len ∧ Rd w w.heap.size a R ∧ len ≤ cap ∧ cap ≤ 9223372036854775807 := by
  rcases h with ⟨rfl, rfl, rfl, rfl⟩ | ⟨x, rfl, hl, hm, hz, hc, hw⟩
  · exact ⟨[], rfl, fun h => by simp at h, Nat.le_refl _, by omega⟩
  · unfold maxLen at hm
    refine ⟨(zs.take len).map (BitVec.ofInt 8), by simp; omega, fun hp => ?_, hl, by omega⟩
    have hp' : 0 < len := by simp at hp; omega
    have h0 := hc 0 (by omega)
    obtain ⟨b, o, sp⟩ := x
    have hsp : sp = none := by
      cases sp with
      | none => rfl
      | some q =>
        exfalso
        have e : (⟨b, o, some q⟩ : Addr).add 0 = ⟨b, o, some q⟩ := by unfold Addr.add; simp
        rw [e] at h0
        unfold World.cell? at h0
        revert h0
        cases w.heap[b]? with
        | none => simp
        | some ob => cases ob <;> simp
    subst hsp
    refine ⟨b, o, rfl, ?_, fun j hj => ?_⟩
    · have e : (⟨b, o, none⟩ : Addr).add 0 = ⟨b, o + 0, none⟩ := Addr.add_mid b o 0
      rw [e] at h0
      exact World.block_lt_of_cell? w _ h0
    · have hj' : j < len := by simp at hj; omega
      have hjz : j < zs.length := by omega
      have h1 := hc j hjz
      rw [Addr.add_mid] at h1
      rw [h1]
      have hz2 : zs.getD j 0 = zs[j] := by simp [List.getD, hjz]
      have hw2 := byte_of (hw zs[j] (List.getElem_mem hjz))
      rw [hz2]
      simp [List.getD, List.getElem?_take, hj', hjz, hw2]
theorem rd_grown {w w' : World} {row : Option Nat} {B : Nat} {A : Option Addr} {R : List (BitVec 8)} (h : Rd w B A R) (hg : w.grownBy w' row) (hne : ∀ a : Addr, A = some a → some a.block ≠ row) : Rd w' w'.heap.size A R := fun hp => by
  obtain ⟨b, o, e, hlt, hc⟩ := h hp
  have h0 := hc 0 hp
  have hl := World.block_lt_of_cell? w _ h0
  exact ⟨b, o, e, Nat.lt_of_lt_of_le hl hg.size, fun j hj => hg.cell (hc j hj) (by show some b ≠ row; exact hne ⟨b, o, none⟩ e)⟩
end Go.Proofs.YtihbmahjdmfjpaaDoor
