/- Blocks of known cells, rows of bytes, appends, and regions that draw their order: plain laws over the loaded program. What the reader's small methods return: isWidth, Torn, has, Left, End. What has, Left and End return, and what tear makes of a reader. What slices.Clone and cut return. What cut returns: what was read, and what the reader is then. What Take, Peek and Open return, and what the reader is then. Numbers as bytes, the lowest first; what Num returns, and what the reader is then. What bytes.Put returns. The compact form of a number: what first, following and Size return. What Hash and Open return, and what the reader is then. The law package's awake returns true. What the document's own Width, Digits and Put return. The law BytesPuts returns true for every input that can be read. What compact.Put and PutText return. What compact.PutText returns. What the reader's End, Peek and Hash, compact.Get and compact.Text return, and what the reader is then. Transactions in memory: slices of bytes, lists of them, inputs, outputs; how each lies. What tx.fits, longIn's own function, and slices.IndexFunc and ContainsFunc with it return. What tx.parsedCount returns, and what the reader is then. A law on regions that draw their order, where a condition holds behind each of their operations. A law on regions that draw their order, where a condition holds behind each operation ahead of number z, and what stands from z on waits for all that reads. What the loops 'each' return when the closure may return an error: the first error, or none. What bytes.Put, tx.number and tx.count return. What slices.ContainsFunc, longIn, longOut and the check for a witness return. What slices.IndexFunc over inputs and outputs returns. What tx.Check and Witnessed return. A captured variable that holds a row of bytes of the call's own, and what an append to it makes of it. What the closures that write an input, an output, a witness return, and what they make of the captured variable. What the closure that writes an output, and the loop over inputs or outputs, return. -/
import Derived.Test.YtnkkhmgplpkjbaaDoorProg
import Derived.WalkKit
import Derived.WalkSpells
import Derived.WalkLawsBesides
import Derived.Laws.BitsAllLaws
import Derived.Laws.Shifts
import Derived.Lib.Hide
import Derived.Deep.QuietTactic
import Derived.BigQuiet
import Derived.Deep.RegionHeld3
import Derived.Deep.DeepMust
import Derived.KernelRfl
import Derived.Laws.CopyOwn
import Derived.Laws.Rows
import Derived.Deep.DeepCutAuto
import Derived.Deep.CutRange
import Derived.Laws.AppendOwnNone
import Derived.Lib.ConvBytes
import Derived.Lib.SlBytesConst
import Derived.Outline
import Derived.Laws.MakeOwn
import Derived.OwnWalk
import Derived.Lib.MinMax
import Derived.StillTail
namespace Go.Proofs.YtnkkhmgplpkjbaaDoor
open Go.RowKit
set_option linter.unusedVariables false
set_option linter.unusedSimpArgs false
/-- Block b is a row of cells, all known, none frozen. -/
def Blk (w : World) (b : Nat) (T : TypeId) (vs : List Value) : Prop := w.heap[b]? = some (.cells vs.toArray T (0, 0))
theorem Blk.cell {w : World} {b : Nat} {T : TypeId} {vs : List Value} (h : Blk w b T vs) {j : Nat} {v : Value} (hj : vs[j]? = some v) : w.cell? ⟨b, j, none⟩ = some v := by
  unfold Blk at h; simp [World.cell?, h, hj]
theorem Blk.free {w : World} {b : Nat} {T : TypeId} {vs : List Value} (h : Blk w b T vs) (j : Nat) : w.frozen? ⟨b, j, none⟩ = false := by
  unfold Blk at h; simp [World.frozen?, h]
theorem Blk.lt {w : World} {b : Nat} {T : TypeId} {vs : List Value} (h : Blk w b T vs) : b < w.heap.size := by
  unfold Blk at h
  rcases Nat.lt_or_ge b w.heap.size with hlt | hge
  · exact hlt
  · rw [Array.getElem?_eq_none hge] at h; cases h
theorem Blk.new (w : World) (T : TypeId) (vs : Array Value) : Blk (w.alloc (.cells vs T)) w.heap.size T vs.toList := by
  unfold Blk; show (w.heap.push _)[w.heap.size]? = _; rw [Array.getElem?_push_size]
theorem Blk.alloc {w : World} {b : Nat} {T : TypeId} {vs : List Value} (h : Blk w b T vs) (o : Obj) : Blk (w.alloc o) b T vs := by
  have hl := h.lt
  unfold Blk at *; rw [Below.heap_alloc _ _ _ hl]; exact h
theorem Blk.drew {w : World} {b : Nat} {T : TypeId} {vs : List Value} (h : Blk w b T vs) : Blk w.drew b T vs := h
theorem Blk.set {w : World} {b : Nat} {T : TypeId} {vs : List Value} (h : Blk w b T vs) (j : Nat) (v : Value) : Blk (w.setCell ⟨b, j, none⟩ v) b T (vs.set j v) := by
  unfold Blk at *
  have hl := Blk.lt (w := w) (b := b) (T := T) (vs := vs) h
  simp only [World.setCell, Array.getElem?_modify, h]
  simp
theorem Blk.other {w : World} {b : Nat} {T : TypeId} {vs : List Value} (h : Blk w b T vs) {a : Addr} (ha : b ≠ a.block) (v : Value) : Blk (w.setCell a v) b T vs := by
  unfold Blk at *; rw [Below.heap_setCell _ _ _ _ ha]; exact h
theorem Blk.grown {w w' : World} {b : Nat} {T : TypeId} {vs : List Value} (h : Blk w b T vs) {row : Option Nat} (hg : w.grownBy w' row) (hr : some b ≠ row) : Blk w' b T vs := by
  have hl := h.lt
  unfold Blk at *; rw [hg.block b hl hr]; exact h
theorem Blk.below {w w' : World} {b B : Nat} {T : TypeId} {vs : List Value} (h : Blk w b T vs) (hg : Below B w w') (hr : b < B) : Blk w' b T vs := by
  unfold Blk at *; rw [hg.block b hr]; exact h
theorem cell_new {w : World} {vs : Array Value} {T : TypeId} {m : Nat × Nat} {b j : Nat} {v : Value} (hb : b = w.heap.size) (hv : vs[j]? = some v) : (w.alloc (.cells vs T m)).cell? ⟨b, j, none⟩ = some v := by
  subst hb
  show (match (w.heap.push _)[w.heap.size]? with | some (.cells c _ _) => _ | _ => _) = _
  rw [Array.getElem?_push_size]; simpa using hv
theorem cell_alloc {w : World} {a : Addr} {v : Value} (o : Obj) (h : w.cell? a = some v) : (w.alloc o).cell? a = some v := by
  rw [World.cell?_of_block (w := w) (Below.heap_alloc w o a.block (World.block_lt_of_cell? w a h))]; exact h
theorem frozen_alloc {w : World} {a : Addr} {x : Bool} (o : Obj) (hl : a.block < w.heap.size) (h : w.frozen? a = x) : (w.alloc o).frozen? a = x := by
  rw [World.frozen?_of_block (w := w) (Below.heap_alloc w o a.block hl)]; exact h
theorem cell_store_ne {w : World} {a b : Addr} {u v : Value} (hne : b ≠ a) (h : w.cell? a = some v) : (w.setCell b u).cell? a = some v := by
  rw [World.cell?_setCell_other]; · exact h
  · exact hne
theorem ret_int {k : IntKind} {a b : Int} (h : a = b) : Ending.returned (.int k a) = .returned (.int k b) := by rw [h]
/-- A byte, as the model holds it. -/
def Bt (x : BitVec 8) : Int := (x.toNat : Int)
theorem Bt_lo (x : BitVec 8) : 0 ≤ Bt x := Int.natCast_nonneg _
theorem Bt_hi (x : BitVec 8) : Bt x < 256 := by unfold Bt; have := x.isLt; omega
theorem Blk.range {w : World} {b : Nat} {T : TypeId} {vs : List Value} (h : Blk w b T vs) : w.rangeAt b 0 vs := fun j v hv => by
  rw [Nat.zero_add]; exact h.cell hv
theorem Blk.there {w : World} {b : Nat} {T : TypeId} {vs : List Value} (h : Blk w b T vs) : w.there b 0 vs.length := fun j hj => by
  rw [Nat.zero_add]
  exact ⟨by rw [h.cell (List.getElem?_eq_getElem hj)]; rfl, h.free j⟩
theorem Blk.setCells_at (b : Nat) (T : TypeId) : ∀ (us cur pre : List Value) (w : World), us.length = cur.length → Blk w b T (pre ++ cur) → Blk (w.setCells b pre.length us) b T (pre ++ us)
  | [], [], _, _, _, h => h
  | [], _ :: _, _, _, hl, _ => by simp at hl
  | _ :: _, [], _, _, hl, _ => by simp at hl
  | u :: us, c :: cur, pre, w, hl, h => by
    have h1 := h.set pre.length u
    have e : (pre ++ c :: cur).set pre.length u = (pre ++ [u]) ++ cur := by simp
    rw [e] at h1
    have h2 := Blk.setCells_at b T us cur (pre ++ [u]) _ (by simpa using hl) h1
    simpa [World.setCells] using h2
theorem Blk.setCells {w : World} {b : Nat} {T : TypeId} {vs : List Value} (h : Blk w b T vs) (us : List Value) (hl : us.length = vs.length) : Blk (w.setCells b 0 us) b T us :=
  Blk.setCells_at b T us vs [] w hl h
theorem below_setCells {B b : Nat} (hB : B ≤ b) {w0 : World} : ∀ (us : List Value) (o : Nat) (w : World), Below B w0 w → Below B w0 (w.setCells b o us)
  | [], _, _, h => h
  | u :: us, o, w, h => below_setCells hB us (o + 1) _ (h.setCell hB u)
theorem Blk.other_setCells {b' b : Nat} {T : TypeId} {vs : List Value} (hb : b ≠ b') : ∀ (us : List Value) (o : Nat) (w : World), Blk w b T vs → Blk (w.setCells b' o us) b T vs
  | [], _, _, h => h
  | u :: us, o, w, h => Blk.other_setCells hb us (o + 1) _ (h.other hb u)
theorem Blk.load {w : World} {b : Nat} {T : TypeId} {vs : List Value} (h : Blk w b T vs) {P : Program} (ty : TypeId) {d : TypeDesc} (hu : P.underlying ty = some d) (hd : d.isRow = true) {n : Nat} (hi : (P.info? ty).map (·.size) = some n) (hn : vs.length = n) :
    (Instr.loadAt ty (.pointer (some ⟨b, 0, none⟩))).run P w = .ok (.agg vs.toArray) w := run_loadAt_mid w b 0 ty vs d h.range hu hd (by rw [hn]; exact hi)
theorem Blk.store {w : World} {b : Nat} {T : TypeId} {vs : List Value} (h : Blk w b T vs) {P : Program} (ty : TypeId) (us : List Value) {n : Nat} (hi : (P.info? ty).map (·.size) = some n) (hn : vs.length = n) (hl : us.length = n) (h1 : ∀ v ∈ us, v.oneCell' = true) :
    (Instr.storeAt ty (.pointer (some ⟨b, 0, none⟩)) (.agg us.toArray)).run P w = .ok () (w.setCells b 0 us) := by
  have := run_storeAt_mid w b 0 ty us.toArray (P := P) (by rw [List.size_toArray, hl, ← hn]; exact h.there) (by rw [List.size_toArray, hl]; exact hi) (all_oneCell_toArray h1)
  simpa using this
def vbs (l : List (BitVec 8)) : List Value := l.map fun x => Value.int .u8 (Bt x)
theorem vbs_at {l : List (BitVec 8)} {j : Nat} (h : j < l.length) : (vbs l)[j]? = some (.int .u8 (Bt (l.getD j 0))) := by
  unfold vbs; simp [h]
/-- The slice with address A reads as the bytes R, and lies below block B. -/
def Rd (w : World) (B : Nat) (A : Option Addr) (R : List (BitVec 8)) : Prop :=
  0 < R.length → ∃ b o, A = some ⟨b, o, none⟩ ∧ b < B ∧ ∀ j, j < R.length → w.cell? ⟨b, o + j, none⟩ = some (.int .u8 (Bt (R.getD j 0)))
theorem Rd.keep {w w' : World} {B : Nat} {A : Option Addr} {R : List (BitVec 8)} (h : Rd w B A R) (hb : Below B w w') : Rd w' B A R := fun hp => by
  obtain ⟨b, o, e, hlt, hc⟩ := h hp
  exact ⟨b, o, e, hlt, fun j hj => by rw [hb.cell (p := ⟨b, o + j, none⟩) hlt]; exact hc j hj⟩
theorem vbs_set (l : List (BitVec 8)) (j : Nat) (x : BitVec 8) : (vbs l).set j (.int .u8 (Bt x)) = vbs (l.set j x) := by
  unfold vbs; rw [List.map_set]
theorem vbs_len (l : List (BitVec 8)) : (vbs l).length = l.length := by simp [vbs]
theorem splice_pad (n : Nat) (R : List (BitVec 8)) : splice (vbs (List.replicate n 0)) 0 (vbs R) = vbs (R ++ List.replicate (n - R.length) 0) := by
  simp [splice, vbs]
theorem vbs_one (l : List (BitVec 8)) : ∀ v ∈ vbs l, v.oneCell' = true := by
  intro v hv
  simp only [vbs, List.mem_map] at hv
  obtain ⟨x, _, rfl⟩ := hv
  rfl
theorem there_arr {w : World} {b n : Nat} {vs : List Value} (h : w.there b 0 n) (hl : vs.length = n) : w.there b 0 vs.toArray.size := by rw [List.size_toArray, hl]; exact h
theorem info_arr {x : Option Nat} {vs : List Value} (h : x = some vs.length) : x = some vs.toArray.size := by rw [List.size_toArray]; exact h
theorem Rd.keep' {w w' : World} {B B' : Nat} {A : Option Addr} {R : List (BitVec 8)} (h : Rd w B A R) (hb : Below B' w w') (hB : B ≤ B') : Rd w' B A R := fun hp => by
  obtain ⟨b, o, e, hlt, hc⟩ := h hp
  exact ⟨b, o, e, hlt, fun j hj => by rw [hb.cell (p := ⟨b, o + j, none⟩) (Nat.lt_of_lt_of_le hlt hB)]; exact hc j hj⟩
theorem Rd.up {w : World} {B B' : Nat} {A : Option Addr} {R : List (BitVec 8)} (h : Rd w B A R) (hB : B ≤ B') : Rd w B' A R := fun hp => by
  obtain ⟨b, o, e, hlt, hc⟩ := h hp
  exact ⟨b, o, e, Nat.lt_of_lt_of_le hlt hB, hc⟩
section
variable {P : Program} {ops : Array Oper} {Q : Exit → Act → World → Prop} {md : Region.Mode} {S : World → Prop}
/-- Whatever order is drawn from here on; behind each operation but number z the condition S holds. -/
def AnyBut (P : Program) (md : Region.Mode) (ops : Array Oper) (Q : Exit → Act → World → Prop) (S : World → Prop) (z : Nat) : Nat → Array Bool → Act → World → Prop
  | 0, listed, a, w => Region.ready md ops listed = [] ∧ Q .normal a w
  | n + 1, listed, a, w => (Region.ready md ops listed = [] → Q .normal a w) ∧
      ∀ i ∈ Region.ready md ops listed, wpOp P ops Q i (fun a' w' => (i ≠ z → S w') ∧ AnyBut P md ops Q S z n (listed.setIfInBounds i true) a' w') a w
theorem AnyBut.any {z : Nat} : ∀ (n : Nat) (listed : Array Bool) (a : Act) (w : World), AnyBut P md ops Q S z n listed a w → wpAny P md ops Q n listed a w
  | 0, _, _, _, h => h
  | n + 1, _, _, _, h => ⟨h.1, fun i hi => wpOp_mono (fun a' w' h' => AnyBut.any n _ a' w' h'.2) (h.2 i hi)⟩
/-- Does operation z wait for operation i? -/
def waits (md : Region.Mode) (ops : Array Oper) (z i : Nat) : Bool := match ops[z]? with
  | some o => o.after.any fun e => Region.binds md e && e.on == i
  | none => false
theorem not_ready_of_waits {z i : Nat} {listed : Array Bool} (hw : waits md ops z i = true) (hi : i ∈ Region.ready md ops listed) : z ∉ Region.ready md ops listed := by
  intro hz
  obtain ⟨_, oz, hoz, hall⟩ := mem_ready.1 hz
  unfold waits at hw
  rw [hoz] at hw
  obtain ⟨e, he, hb⟩ := Array.any_eq_true'.1 hw
  simp only [Bool.and_eq_true, beq_iff_eq] at hb
  have h1 := hall e he hb.1
  have h0 := (mem_ready.1 hi).1
  rw [hb.2] at h1
  rcases Nat.lt_or_ge i listed.size with h' | h'
  · simp [h'] at h0 h1; rw [h0] at h1; cases h1
  · simp [Array.getElem?_eq_none h'] at h1
theorem AnyBut.first {z i : Nat} {oi : Oper} {v : Value} (hi : ops[i]? = some oi) (hsel : ∀ (j : Nat) (o : Oper) cs b, ops[j]? = some o → o.op ≠ .select cs b)
    (hQ : ∀ c a w, Q (.panic c) (a.put oi.dst v) w → Q (.panic c) a w) (hz : waits md ops z i = true) :
    ∀ (n : Nat) (listed : Array Bool) (a : Act) (w : World),
      (∀ j oj, ops[j]? = some oj → j ≠ i → listed.getD j true = false → (∀ e ∈ oj.after, Region.binds md e = true → e.on ≠ i) → oi.apart ops oj = true) →
      i ∈ Region.ready md ops listed → YieldsIf P ops S oi v a → S w →
      AnyBut P md ops Q S z n (listed.setIfInBounds i true) (a.put oi.dst v) w → AnyBut P md ops Q S z (n + 1) listed a w
  | 0, listed, a, w, _, hr, hy, hS, H => by
    refine ⟨fun h => (by rw [h] at hr; cases hr), fun j hj => ?_⟩
    by_cases hji : j = i
    · subst hji; exact hy.wpOp hi hS ⟨fun _ => hS, H⟩
    · have hm := ready_mono hj hji
      rw [H.1] at hm
      cases hm
  | n + 1, listed, a, w, hfree, hr, hy, hS, H => by
    refine ⟨fun h => (by rw [h] at hr; cases hr), fun j hj => ?_⟩
    by_cases hji : j = i
    · subst hji; exact hy.wpOp hi hS ⟨fun _ => hS, H⟩
    · have hjz : j ≠ z := fun e => not_ready_of_waits hz hr (e ▸ hj)
      obtain ⟨hjun, oj, hoj, hall⟩ := mem_ready.1 hj
      have hno : ∀ e ∈ oj.after, Region.binds md e = true → e.on ≠ i := fun e he hb heq => by
        have hw : waits md ops j i = true := by
          unfold waits
          rw [hoj]
          exact Array.any_eq_true'.2 ⟨e, he, by simp [hb, heq]⟩
        exact not_ready_of_waits hw hr hj
      have h2 := wpOp_putIf hoj (hfree j oj hoj hji hjun hno) (fun cs b => hsel i oi cs b hi) (fun cs b => hsel j oj cs b hoj) hQ hy (H.2 j (ready_mono hj hji))
      refine wpOp_mono (fun a' w' h3 => ⟨h3.2.1, AnyBut.first hi hsel hQ hz n (listed.setIfInBounds j true) a' w' (fun k ok hk hki hun hne => hfree k ok hk hki ?_ hne) (ready_mono hr (Ne.symm hji)) h3.1 (h3.2.1 hjz) ?_⟩) h2
      · by_cases hjk : j = k
        · subst hjk; exact hjun
        · rwa [getD_set_ne true hjk] at hun
      · rw [Array.setIfInBounds_comm _ _ hji]
        exact h3.2.2
theorem AnyBut.take {z i : Nat} {oi : Oper} {v : Value} {n : Nat} {listed : Array Bool} {a : Act} {w : World} (hi : ops[i]? = some oi)
    (hs : Region.noSelect ops = true) (hf : Region.free md ops listed i = true) (hr : (Region.ready md ops listed).contains i = true) (hz : waits md ops z i = true)
    (hQ : ∀ c a w, Q (.panic c) (a.put oi.dst v) w → Q (.panic c) a w) (hy : YieldsIf P ops S oi v a) (hS : S w)
    (h : AnyBut P md ops Q S z n (listed.setIfInBounds i true) (a.put oi.dst v) w) : AnyBut P md ops Q S z (n + 1) listed a w :=
  AnyBut.first hi (Region.noSelect_spec hs) hQ hz n listed a w (Region.free_spec hi hf) (by simpa using hr) hy hS h
theorem AnyBut.one {z i : Nat} {o : Oper} {n : Nat} {listed : Array Bool} {a : Act} {w : World} (hr : Region.ready md ops listed = [i]) (ho : ops[i]? = some o) (hg : o.guard = none)
    (h : ∀ K : Act → World → Prop, (∀ a' w', (i ≠ z → S w') → AnyBut P md ops Q S z n (listed.setIfInBounds i true) a' w' → K a' w') → Oper.wp P o a w K Q) : AnyBut P md ops Q S z (n + 1) listed a w := by
  refine ⟨fun e => (by rw [hr] at e; cases e), fun j hj => ?_⟩
  rw [hr] at hj
  obtain rfl : j = i := by simpa using hj
  unfold wpOp
  rw [ho]
  have hw : Region.wanted o (yielded ops a.tmps) = true := by unfold Region.wanted; rw [hg]
  simp only [hw, if_true]
  exact .inl (h _ fun _ _ h1 h2 => ⟨h1, h2⟩)
theorem AnyBut.two {z i k : Nat} {o p : Oper} {n : Nat} {listed : Array Bool} {a : Act} {w : World} (hr : Region.ready md ops listed = [i, k]) (ho : ops[i]? = some o) (hg : o.guard = none) (hp : ops[k]? = some p) (hgp : p.guard = none)
    (h : ∀ K : Act → World → Prop, (∀ a' w', (i ≠ z → S w') → AnyBut P md ops Q S z n (listed.setIfInBounds i true) a' w' → K a' w') → Oper.wp P o a w K Q)
    (h2 : ∀ K : Act → World → Prop, (∀ a' w', (k ≠ z → S w') → AnyBut P md ops Q S z n (listed.setIfInBounds k true) a' w' → K a' w') → Oper.wp P p a w K Q) : AnyBut P md ops Q S z (n + 1) listed a w := by
  refine ⟨fun e => (by rw [hr] at e; cases e), fun j hj => ?_⟩
  rw [hr] at hj
  have hj' : j = i ∨ j = k := by simpa using hj
  rcases hj' with rfl | rfl
  · unfold wpOp
    rw [ho]
    have hw : Region.wanted o (yielded ops a.tmps) = true := by unfold Region.wanted; rw [hg]
    simp only [hw, if_true]
    exact .inl (h _ fun _ _ h1 h2 => ⟨h1, h2⟩)
  · unfold wpOp
    rw [hp]
    have hw : Region.wanted p (yielded ops a.tmps) = true := by unfold Region.wanted; rw [hgp]
    simp only [hw, if_true]
    exact .inl (h2 _ fun _ _ h1 h2 => ⟨h1, h2⟩)
theorem AnyBut.done {z : Nat} {listed : Array Bool} {a : Act} {w : World} (hr : Region.ready md ops listed = []) (h : Q .normal a w) : ∀ n, AnyBut P md ops Q S z n listed a w
  | 0 => ⟨hr, h⟩
  | _ + 1 => ⟨fun _ => h, by rw [hr]; simp⟩
theorem wp_region_but {id z : Nat} {a : Act} {w : World} (S : World → Prop) (hm : P.follows .mixedOrders = true)
    (h : AnyBut P .any ops Q S z ops.size (Array.replicate ops.size false) a w.drew) : (Code.region id ops true).wp P Q a w :=
  wp_region_any hm (AnyBut.any _ _ _ _ h)
end
theorem wp_calm {P : Program} {c : Code} {K : Act → World → Prop} {Q' : Exit → Act → World → Prop} {a : Act} {w : World}
    (h : c.wp P (Exit.then K fun _ _ _ => False) a w) : c.wp P (Exit.then K Q') a w :=
  Code.wp_mono (fun e a w q => by cases e <;> first | exact q | exact q.elim) h
theorem AnyBut.gone {P : Program} {ops : Array Oper} {Q : Exit → Act → World → Prop} {md : Region.Mode} {S : World → Prop} {z i : Nat} {o : Oper} {n : Nat} {listed : Array Bool} {a : Act} {w : World} (hr : Region.ready md ops listed = [i]) (ho : ops[i]? = some o) (hw : Region.wanted o (yielded ops a.tmps) = true)
    (h : ∀ K : Act → World → Prop, (∀ a' w', (i ≠ z → S w') → AnyBut P md ops Q S z n (listed.setIfInBounds i true) a' w' → K a' w') → Oper.wp P o a w K Q) : AnyBut P md ops Q S z (n + 1) listed a w := by
  refine ⟨fun e => (by rw [hr] at e; cases e), fun j hj => ?_⟩
  rw [hr] at hj
  obtain rfl : j = i := by simpa using hj
  unfold wpOp
  rw [ho]
  simp only [hw, if_true]
  exact .inl (h _ fun _ _ h1 h2 => ⟨h1, h2⟩)
/-- What is appended: the cells at A, or nothing. -/
def Src22 (w : World) (A : Option Addr) (m : Nat) (news : List Value) : Prop :=
  news.length = m ∧ (0 < m → ∃ ad, A = some ad ∧ ∀ j u, news[j]? = some u → w.cell? (ad.add j) = some u) ∧ (∀ u ∈ news, u.oneCell' = true)
theorem info5 : (Tryd.prog.info? 5).map (fun i => (i.zero, i.size, i.bytes)) = some (some (.int .u8 0), 1, 1) := by kernel_rfl
theorem run_app {w : World} {base : Nat} {v : Value} {n : Nat} {xs : List Value} (hown : w.ownsRow base 5 1 v n xs) {A : Option Addr} {m c : Nat} {news : List Value} (hs : Src22 w A m news) (hc : A = none → c = 0) (hb : n + m ≤ 140737488355328) (hbase : base ≤ w.heap.size) :
    ∃ v' w', (Builtin.append_ #[27, 27] 27 #[v, .slice A m c]).run Tryd.prog w = .ok v' w' ∧ w'.ownsRow base 5 1 v' (n + m) (xs ++ news) ∧ w.grownBy w' v.ownBlock := by
  obtain ⟨i0, hi, hz0, hz1, hz2⟩ := info_parts info5
  obtain ⟨h1, h2, h3⟩ := hs
  cases A with
  | some ad =>
    have hnews : ∀ j u, news[j]? = some u → w.cell? (ad.add j) = some u := fun j u hj => by
      have hl := (List.getElem?_eq_some_iff.1 hj).1
      obtain ⟨ad', e, hc⟩ := h2 (by omega)
      cases e
      exact hc j u hj
    obtain ⟨v', w', hr, ho, hg, _⟩ := run_append_own (P := Tryd.prog) w base 27 27 5 i0 (.int .u8 0) 1 1 Tryd.underlying27 hi hz0 hz1 hz2 rfl (by omega) v n xs hown ad m c news (by omega) hnews h3 (by unfold maxLen; omega) (by omega) hbase
    exact ⟨v', w', hr, ho, hg⟩
  | none =>
    have hm : m = 0 := Nat.eq_zero_of_not_pos fun hp => by obtain ⟨ad, e, _⟩ := h2 hp; cases e
    have hc0 := hc rfl
    subst hm hc0
    have : news = [] := List.eq_nil_of_length_eq_zero h1
    subst this
    exact ⟨v, w, run_append_owned_none (P := Tryd.prog) (w := w) base 27 27 5 i0 1 Tryd.underlying27 hi v n xs hown, by simpa using hown, ⟨rfl, rfl, rfl, Nat.le_refl _, fun _ _ _ => rfl⟩⟩
theorem wp_app {w : World} {o : Oper} {a : Act} {K : Act → World → Prop} {Q : Exit → Act → World → Prop} (s x : Operand) (ho : o.op = .call { callee := .builtin .append, args := #[s, x], argTypes := #[27, 27] }) (hty : o.type = 27)
    (base : Nat) (v : Value) (n : Nat) (xs : List Value) (hs : a.eval s = v) (hown : w.ownsRow base 5 1 v n xs) (A : Option Addr) (m c : Nat) (news : List Value) (hx : a.eval x = .slice A m c) (hsr : Src22 w A m news) (hc : A = none → c = 0) (hb : n + m ≤ 140737488355328) (hbase : base ≤ w.heap.size)
    (h : ∀ v' w', w'.ownsRow base 5 1 v' (n + m) (xs ++ news) → w.grownBy w' v.ownBlock → K (a.put o.dst v') w') : o.wp Tryd.prog a w K Q := by
  obtain ⟨v', w', hr, h2, h3⟩ := run_app hown hsr hc hb hbase
  rw [← hty] at hr
  unfold Oper.wp execOp
  simp only [ho, resolve, invoke, builtin, Sem.run_bind, Sem.run_pure, Result.andThen_ok, List.map_toArray, List.map_cons, List.map_nil, hs, hx]
  rw [hty] at hr ⊢
  simp only [hr]
  exact h v' w' h2 h3
theorem owns_empty (w : World) (base : Nat) (hb : base ≤ w.heap.size) : (w.alloc (.cells #[] 5)).ownsRow base 5 1 (.slice (some ⟨w.heap.size, 0, none⟩) 0 0) 0 [] :=
  World.ownsRow_made w #[] 0 hb (by unfold maxLen; omega) rfl
theorem src_of_blk {w : World} {b T : Nat} {R : List (BitVec 8)} (h : Blk w b T (vbs R)) : Src22 w (some ⟨b, 0, none⟩) R.length (vbs R) :=
  ⟨vbs_len R, fun _ => ⟨⟨b, 0, none⟩, rfl, fun j u hj => by rw [Addr.add_mid, Nat.zero_add]; exact h.cell hj⟩, vbs_one R⟩
theorem src_of_rd {w : World} {B : Nat} {A : Option Addr} {R : List (BitVec 8)} (h : Rd w B A R) : Src22 w A R.length (vbs R) :=
  ⟨vbs_len R, fun hp => by
    obtain ⟨b, o, e, hlt, hc⟩ := h hp
    refine ⟨⟨b, o, none⟩, e, fun j u hj => ?_⟩
    have hl := (List.getElem?_eq_some_iff.1 hj).1
    rw [vbs_len] at hl
    rw [vbs_at hl] at hj
    rw [Addr.add_mid, hc j hl]; exact hj, vbs_one R⟩
/-- A row of the call's own, read as bytes. -/
theorem rd_of_owns {w : World} {base : Nat} {v : Value} {R : List (BitVec 8)} (h : w.ownsRow base 5 1 v R.length (vbs R)) : ∃ A cap, v = .slice A R.length cap ∧ Rd w w.heap.size A R ∧ R.length ≤ cap ∧ cap ≤ 9223372036854775807 ∧ (A = none → cap = 0) := by
  rcases h.2 with ⟨rfl, h0⟩ | ⟨g, cap, cur, rfl, hb, hg, hn, hm, hcs, ht⟩
  · exact ⟨none, 0, by rw [h0], fun hp => by omega, by omega, by omega, fun _ => rfl⟩
  · refine ⟨_, cap, rfl, fun hp => ⟨g, 0, rfl, (Array.getElem?_eq_some_iff.1 hg).1, fun j hj => ?_⟩, hn, by unfold maxLen at hm; omega, fun h => by cases h⟩
    have h1 := h.cells (g := g) rfl j (.int .u8 (Bt (R.getD j 0))) (vbs_at hj)
    rwa [Addr.add_mid] at h1
/-- The string of some bytes. -/
def strB (L : List (BitVec 8)) : ByteArray := (L.map Bt).foldl (fun r n => r.push (UInt8.ofNat n.toNat)) ByteArray.empty
theorem wpList_app {w : World} {ops : Array Oper} {rest : List Oper} {o : Oper} {a : Act} {Q : Exit → Act → World → Prop} (hgd : o.guard = none) (s x : Operand) (ho : o.op = .call { callee := .builtin .append, args := #[s, x], argTypes := #[27, 27] }) (hty : o.type = 27)
    (base : Nat) (v : Value) (n : Nat) (xs : List Value) (hs : a.eval s = v) (hown : w.ownsRow base 5 1 v n xs) (A : Option Addr) (m c : Nat) (news : List Value) (hx : a.eval x = .slice A m c) (hsr : Src22 w A m news) (hc : A = none → c = 0) (hb : n + m ≤ 140737488355328) (hbase : base ≤ w.heap.size)
    (h : ∀ v' w', w'.ownsRow base 5 1 v' (n + m) (xs ++ news) → w.grownBy w' v.ownBlock → wpList Tryd.prog ops Q rest (a.put o.dst v') w') : wpList Tryd.prog ops Q (o :: rest) a w :=
  wpList_plain hgd fun _ hK => wp_app s x ho hty base v n xs hs hown A m c news hx hsr hc hb hbase fun v' w' h2 h3 => hK _ _ (h v' w' h2 h3)
/-- The call's own row v holds the bytes L. -/
def OB (w : World) (B : Nat) (v : Value) (L : List (BitVec 8)) : Prop := w.ownsRow B 5 1 v L.length (vbs L)
theorem OB.nil (w : World) (B : Nat) : OB w B (.slice none 0 0) [] := World.ownsRow_nil w B 5 1
theorem OB.below {w w' : World} {B B' : Nat} {v : Value} {L : List (BitVec 8)} (h : OB w B v L) (hb : Below w.heap.size w w') : OB w' B v L := by
  refine ⟨h.1, ?_⟩
  rcases h.2 with hn | ⟨g, cap, cur, rfl, hbb, hgg, rest⟩
  · exact .inl hn
  · exact .inr ⟨g, cap, cur, rfl, hbb, by rw [hb.block g (Array.getElem?_eq_some_iff.1 hgg).1]; exact hgg, rest⟩
theorem OB.alloc {w : World} {B : Nat} {v : Value} {L : List (BitVec 8)} (h : OB w B v L) (o : Obj) : OB (w.alloc o) B v L := World.ownsRow.alloc h o
theorem OB.drew {w : World} {B : Nat} {v : Value} {L : List (BitVec 8)} (h : OB w B v L) : OB w.drew B v L := h
theorem OB.rd {w : World} {B : Nat} {v : Value} {L : List (BitVec 8)} (h : OB w B v L) : ∃ A cap, v = .slice A L.length cap ∧ Rd w w.heap.size A L ∧ L.length ≤ cap ∧ cap ≤ 9223372036854775807 ∧ (A = none → cap = 0) := rd_of_owns h
/-- Behind an append. -/
theorem OB.app {w0 w w' : World} {B B' : Nat} {v v' : Value} {L M : List (BitVec 8)} (h : OB w B v L) (hb : Below B' w0 w) (hB : B ≤ w.heap.size) (hBB : B' ≤ B) (h2 : w'.ownsRow B 5 1 v' (L.length + M.length) (vbs L ++ vbs M)) (h3 : w.grownBy w' v.ownBlock) : OB w' B v' (L ++ M) ∧ Below B' w0 w' := by
  refine ⟨?_, hb.grown h3 (Nat.le_trans hBB hB) (fun k hk => Nat.le_trans hBB (World.ownsRow.lt h k hk).1)⟩
  unfold OB
  rw [List.length_append, show vbs (L ++ M) = vbs L ++ vbs M by simp [vbs]]
  exact h2
theorem wpList_push {w : World} {ops : Array Oper} {rest : List Oper} {o : Oper} {a : Act} {Q : Exit → Act → World → Prop} (hgd : o.guard = none) (s x : Operand) (ho : o.op = .call { callee := .builtin .append, args := #[s, x], argTypes := #[27, 27] }) (hty : o.type = 27)
    (B : Nat) (v : Value) (L M : List (BitVec 8)) (hs : a.eval s = v) (hown : OB w B v L) (A : Option Addr) (m c : Nat) (hx : a.eval x = .slice A m c) (hm : m = M.length) (hsr : Src22 w A M.length (vbs M)) (hc : A = none → c = 0) (hb : L.length + M.length ≤ 140737488355328) {w0 : World} {B' : Nat} (hbel : Below B' w0 w) (hB : B ≤ w.heap.size) (hBB : B' ≤ B)
    (h : ∀ v' w', OB w' B v' (L ++ M) → Below B' w0 w' → Below B w w' → wpList Tryd.prog ops Q rest (a.put o.dst v') w') : wpList Tryd.prog ops Q (o :: rest) a w := by
  subst hm
  exact wpList_app hgd s x ho hty B v L.length (vbs L) hs hown A M.length c (vbs M) hx hsr hc hb hB fun v' w' h2 h3 => by
    have hA := OB.app hown hbel hB hBB h2 h3
    exact h v' w' hA.1 hA.2 ((Below.refl B w).grown h3 hB (fun k hk => (World.ownsRow.lt hown k hk).1))
theorem one_len (x : BitVec 8) : 1 = [x].length := rfl
theorem src_one (w : World) (x : BitVec 8) : Src22 (w.alloc (.cells #[.int .u8 (Bt x)] 5)) (some ⟨w.heap.size, 0, none⟩) 1 (vbs [x]) :=
  src_of_blk (Blk.new w 5 #[.int .u8 (Bt x)])
theorem run_conv_slice {P : Program} (w : World) (hu22 : P.underlying 27 = some (.slice 5)) (hu5 : P.underlying 5 = some (.int .u8)) (hu9 : P.underlying 9 = some .string) (A : Option Addr) (L : List (BitVec 8)) (n c : Nat) (hn : n = L.length) (B : Nat) (h : Rd w B A L) : (convert 27 9 (.slice A n c)).run P w = .ok (.string (strB L)) w := by
  subst hn
  cases L with
  | nil =>
    cases A with
    | none => rw [run_convert_bytes_string w 27 9 5 _ _ _ hu22 hu5 hu9]; rfl
    | some a =>
      rw [run_convert_bytes_string w 27 9 5 _ _ _ hu22 hu5 hu9]
      exact run_bytesToString w a 0 c [] rfl
  | cons x L =>
    obtain ⟨b, o, rfl, hlt, hc⟩ := h (by simp)
    rw [run_convert_bytes_string w 27 9 5 _ _ _ hu22 hu5 hu9]
    have hl : (loadCells ⟨b, o, none⟩ (x :: L).length).run P w = .ok (((x :: L).map Bt).map (Value.int .u8)).toArray w := by
      have := run_loadCells_list (P := P) w ⟨b, o, none⟩ (vbs (x :: L)) (fun j v hv => by
        have hl := (List.getElem?_eq_some_iff.1 hv).1
        rw [vbs_len] at hl
        rw [vbs_at hl] at hv
        rw [Addr.add_mid, hc j hl]; exact hv)
      rw [vbs_len] at this
      rw [this]
      simp [vbs]
    exact run_bytesToString w ⟨b, o, none⟩ _ _ ((x :: L).map Bt) hl
def bytesOf (s : ByteArray) : List (BitVec 8) := s.data.toList.map UInt8.toBitVec
theorem bytesOf_len (s : ByteArray) : (bytesOf s).length = s.size := by
  show (s.data.toList.map UInt8.toBitVec).length = s.data.size
  rw [List.length_map, Array.length_toList]
theorem grown_ge (w : World) (n m : Nat) (e : TypeId) : n ≤ grownCap w n m e := by
  unfold grownCap
  simp only [Question.cut]
  omega
theorem conv_str (s : ByteArray) (w : World) : ∃ w1 c, (convert 9 27 (.string s)).run Tryd.prog w = .ok (.slice (some ⟨w.heap.size, 0, none⟩) (bytesOf s).length c) w1 ∧ Below w.heap.size w w1 ∧
    Rd w1 w1.heap.size (some ⟨w.heap.size, 0, none⟩) (bytesOf s) ∧ (bytesOf s).length ≤ c := by
  refine ⟨Lib.bytesWorld w 5 s, grownCap w s.size 0 5, ?_, ?_, ?_, ?_⟩
  · rw [bytesOf_len]; exact Lib.run_convert_string_bytes w 9 27 5 s Tryd.underlying9 Tryd.underlying27 Tryd.underlying5
  · exact ⟨rfl, rfl, rfl, by rw [Lib.bytesWorld_size]; omega, fun k hk => Lib.bytesWorld_at_old w 5 s k hk⟩
  · intro hp
    refine ⟨w.heap.size, 0, rfl, by rw [Lib.bytesWorld_size]; omega, fun j hj => ?_⟩
    rw [Nat.zero_add, Lib.bytesWorld_cell w 5 s j (by rwa [bytesOf_len] at hj)]
    have hj2 : j < s.data.toList.length := by rw [bytesOf_len] at hj; rw [Array.length_toList]; exact hj
    simp [bytesOf, Bt, List.getD, hj2]
  · rw [bytesOf_len]; exact grown_ge _ _ _ _
/-- A slice of bytes that came in: nil, or a row of cells. -/
def IsRow (w : World) (a : Option Addr) (len cap : Nat) (zs : List Int) : Prop :=
  (a = none ∧ len = 0 ∧ cap = 0 ∧ zs = []) ∨
  ∃ x, a = some x ∧ len ≤ cap ∧ cap ≤ maxLen ∧ zs.length = cap ∧ (∀ i, i < zs.length → w.cell? (x.add i) = some (.int .u8 (zs.getD i 0))) ∧ ∀ n ∈ zs, (Lit.int .u8 n).wf = true
theorem byte_of {z : Int} (h : (Lit.int .u8 z).wf = true) : Bt (BitVec.ofInt 8 z) = z := by
  have hb : 0 ≤ z ∧ z ≤ 255 := by
    have := h
    simp [Lit.wf, IntKind.min, IntKind.max, IntKind.signed, IntKind.bits] at this
    omega
  unfold Bt
  rw [BitVec.toNat_ofInt]
  omega
theorem rd_of_row {w : World} {a : Option Addr} {len cap : Nat} {zs : List Int} (h : IsRow w a len cap zs) : ∃ R : List (BitVec 8), R.length = len ∧ Rd w w.heap.size a R ∧ len ≤ cap ∧ cap ≤ 9223372036854775807 := by
  rcases h with ⟨rfl, rfl, rfl, rfl⟩ | ⟨x, rfl, hl, hm, hz, hc, hw⟩
  · exact ⟨[], rfl, fun h => by simp at h, Nat.le_refl _, by omega⟩
  · unfold maxLen at hm
    refine ⟨(zs.take len).map (BitVec.ofInt 8), by simp; omega, fun hp => ?_, hl, by omega⟩
    have hp' : 0 < len := by simp at hp; omega
    have h0 := hc 0 (by omega)
    obtain ⟨b, o, sp⟩ := x
    have hsp : sp = none := by
      cases sp with
      | none => rfl
      | some q =>
        exfalso
        have e : (⟨b, o, some q⟩ : Addr).add 0 = ⟨b, o, some q⟩ := by unfold Addr.add; simp
        rw [e] at h0
        unfold World.cell? at h0
        revert h0
        cases w.heap[b]? with
        | none => simp
        | some ob => cases ob <;> simp
    subst hsp
    refine ⟨b, o, rfl, ?_, fun j hj => ?_⟩
    · have e : (⟨b, o, none⟩ : Addr).add 0 = ⟨b, o + 0, none⟩ := Addr.add_mid b o 0
      rw [e] at h0
      exact World.block_lt_of_cell? w _ h0
    · have hj' : j < len := by simp at hj; omega
      have hjz : j < zs.length := by omega
      have h1 := hc j hjz
      rw [Addr.add_mid] at h1
      rw [h1]
      have hz2 : zs.getD j 0 = zs[j] := by simp [List.getD, hjz]
      have hw2 := byte_of (hw zs[j] (List.getElem_mem hjz))
      rw [hz2]
      simp [List.getD, List.getElem?_take, hj', hjz, hw2]
theorem rd_grown {w w' : World} {row : Option Nat} {B : Nat} {A : Option Addr} {R : List (BitVec 8)} (h : Rd w B A R) (hg : w.grownBy w' row) (hne : ∀ a : Addr, A = some a → some a.block ≠ row) : Rd w' w'.heap.size A R := fun hp => by
  obtain ⟨b, o, e, hlt, hc⟩ := h hp
  have h0 := hc 0 hp
  have hl := World.block_lt_of_cell? w _ h0
  exact ⟨b, o, e, Nat.lt_of_lt_of_le hl hg.size, fun j hj => hg.cell (hc j hj) (by show some b ≠ row; exact hne ⟨b, o, none⟩ e)⟩
open Go.RowKit
set_option maxRecDepth 100000
set_option linter.unusedVariables false
set_option linter.unusedSimpArgs false
/-- The slice at A reads as the bytes L, in a block of bytes that lies below B. -/
def Own5 (w : World) (B : Nat) (A : Option Addr) (L : List (BitVec 8)) : Prop :=
  0 < L.length → ∃ b o cur, A = some ⟨b, o, none⟩ ∧ b < B ∧ w.heap[b]? = some (.cells cur 5 (0, 0)) ∧ ∀ j, j < L.length → cur[o + j]? = some (.int .u8 (Bt (L.getD j 0)))
/-- The reader at p has the bytes L left, or is torn. -/
def IsR (w : World) (B : Nat) (p : Option Nat) : Option (List (BitVec 8)) → Prop
  | none => ∀ g, p = some g → g < B ∧ Blk w g 74 [.slice none 0 0, .bool false]
  | some L => ∃ g A cap, p = some g ∧ g < B ∧ Blk w g 74 [.slice A L.length cap, .bool true] ∧ Own5 w B A L ∧ L.length ≤ cap ∧ cap ≤ 9223372036854775807 ∧ (A = none → cap = 0)
def isW (n : Int) : Bool := decide (n = 1 ∨ n = 2 ∨ n = 4 ∨ n = 8)
def hasB (s : Option (List (BitVec 8))) (n : Int) : Bool := match s with
  | none => false
  | some L => decide (0 ≤ n ∧ n ≤ L.length)
theorem isWidth_any (n : Int) (w : World) : Calls Tryd.prog 82 #[.int .i64 n] w fun e w' => e = .returned (.bool (isW n)) ∧ w = w' := by
  by_cases h1 : n = 1
  · subst h1
    go_enter Tryd.func82, Tryd.ntmps82
    go_wp2
    go_ret
    exact ⟨rfl, rfl⟩
  · by_cases h2 : n = 2
    · subst h2
      go_enter Tryd.func82, Tryd.ntmps82
      go_wp2
      go_ret
      exact ⟨rfl, rfl⟩
    · by_cases h4 : n = 4
      · subst h4
        go_enter Tryd.func82, Tryd.ntmps82
        go_wp2
        go_ret
        exact ⟨rfl, rfl⟩
      · by_cases h8 : n = 8
        · subst h8
          go_enter Tryd.func82, Tryd.ntmps82
          go_wp2
          go_ret
          exact ⟨rfl, rfl⟩
        · have e : isW n = false := by unfold isW; simp [h1, h2, h4, h8]
          rw [e]
          go_enter Tryd.func82, Tryd.ntmps82
          go_wp2
          go_ret
          exact ⟨rfl, rfl⟩
theorem torn_nil (w : World) : Calls Tryd.prog 41 #[.pointer none] w fun e w' => e = .returned (.bool true) ∧ w = w' := by
  go_enter Tryd.func41, Tryd.ntmps41
  go_wp2
  go_ret
  exact ⟨rfl, rfl⟩
theorem torn_at (g : Nat) (b : Bool) (v : Value) (w : World) (hb : Blk w g 74 [v, .bool b]) : Calls Tryd.prog 41 #[.pointer (some ⟨g, 0, none⟩)] w fun e w' => e = .returned (.bool (!b)) ∧ w = w' := by
  have c1 := hb.cell (j := 1) (v := .bool b) rfl
  go_enter Tryd.func41, Tryd.ntmps41
  go_wp2
  go_ret
  exact ⟨rfl, rfl⟩
def ptr (p : Option Nat) : Value := .pointer (p.map fun g => ⟨g, 0, none⟩)
theorem torn_any (p : Option Nat) (s : Option (List (BitVec 8))) (B : Nat) (w : World) (h : IsR w B p s) : Calls Tryd.prog 41 #[ptr p] w fun e w' => e = .returned (.bool s.isNone) ∧ w = w' := by
  cases s with
  | none =>
    cases p with
    | none => exact torn_nil w
    | some g => exact torn_at g false _ w (h g rfl).2
  | some L =>
    obtain ⟨g, A, cap, rfl, _, hb, _⟩ := h
    exact torn_at g true _ w hb
open Go.RowKit
set_option maxRecDepth 100000
set_option linter.unusedVariables false
set_option linter.unusedSimpArgs false
theorem ptr_some (g : Nat) : ptr (some g) = .pointer (some ⟨g, 0, none⟩) := rfl
theorem has_any (p : Option Nat) (s : Option (List (BitVec 8))) (n : Int) (B : Nat) (w : World) (h : IsR w B p s) : Calls Tryd.prog 85 #[ptr p, .int .i64 n] w fun e w' => e = .returned (.bool (hasB s n)) ∧ w = w' := by
  have HT := Lib.hid (torn_any p s B w h)
  cases s with
  | none =>
    have HB : hasB none n = false := rfl
    rw [HB]
    obtain ⟨q, hq⟩ : ∃ q, q = ptr p := ⟨_, rfl⟩
    rw [← hq] at HT ⊢
    clear h hq HB
    go_enter Tryd.func85, Tryd.ntmps85
    go_wp2_with (go_at_call 41; (with_reducible refine HT.out.mono ?_); rintro e w' ⟨rfl, rfl⟩; dsimp only [Option.isNone])
    go_ret
    exact ⟨rfl, rfl⟩
  | some L =>
    obtain ⟨g, A, cap, rfl, _, hb, _, hl, hm, _⟩ := h
    rw [ptr_some] at HT ⊢
    have c0 := hb.cell (j := 0) (v := .slice A L.length cap) rfl
    by_cases h0 : 0 ≤ n
    · by_cases h1 : n ≤ L.length
      · have e : hasB (some L) n = true := by simp [hasB, h0, h1]
        rw [e]
        clear e hb hl hm
        go_enter Tryd.func85, Tryd.ntmps85
        go_wp2_with (go_at_call 41; (with_reducible refine HT.out.mono ?_); rintro e w' ⟨rfl, rfl⟩; dsimp only [Option.isNone])
        go_ret
        exact ⟨rfl, rfl⟩
      · have e : hasB (some L) n = false := by simp [hasB, h0, h1]
        rw [e]
        clear e hb hl hm
        have h2 : (L.length : Int) < n := by omega
        go_enter Tryd.func85, Tryd.ntmps85
        go_wp2_with (go_at_call 41; (with_reducible refine HT.out.mono ?_); rintro e w' ⟨rfl, rfl⟩; dsimp only [Option.isNone])
        go_ret
        exact ⟨rfl, rfl⟩
    · have e : hasB (some L) n = false := by simp [hasB, h0]
      rw [e]
      clear e hb hl hm
      have h2 : n < 0 := by omega
      go_enter Tryd.func85, Tryd.ntmps85
      go_wp2_with (go_at_call 41; (with_reducible refine HT.out.mono ?_); rintro e w' ⟨rfl, rfl⟩; dsimp only [Option.isNone])
      go_ret
      exact ⟨rfl, rfl⟩
def leftS (s : Option (List (BitVec 8))) : Nat := match s with
  | none => 0
  | some L => L.length
theorem left_any (p : Option Nat) (s : Option (List (BitVec 8))) (B : Nat) (w : World) (h : IsR w B p s) : Calls Tryd.prog 27 #[ptr p] w fun e w' => e = .returned (.int .i64 (leftS s)) ∧ w = w' := by
  have HT := Lib.hid (torn_any p s B w h)
  cases s with
  | none =>
    obtain ⟨q, hq⟩ : ∃ q, q = ptr p := ⟨_, rfl⟩
    rw [← hq] at HT ⊢
    clear h hq
    go_enter Tryd.func27, Tryd.ntmps27
    go_wp2_with (go_at_call 41; (with_reducible refine HT.out.mono ?_); rintro e w' ⟨rfl, rfl⟩; dsimp only [Option.isNone])
    go_ret
    exact ⟨rfl, rfl⟩
  | some L =>
    obtain ⟨g, A, cap, rfl, _, hb, _, hl, hm, _⟩ := h
    rw [ptr_some] at HT ⊢
    have c0 := hb.cell (j := 0) (v := .slice A L.length cap) rfl
    clear hb hl hm
    go_enter Tryd.func27, Tryd.ntmps27
    go_wp2_with (go_at_call 41; (with_reducible refine HT.out.mono ?_); rintro e w' ⟨rfl, rfl⟩; dsimp only [Option.isNone])
    go_ret
    exact ⟨rfl, rfl⟩
def endS (s : Option (List (BitVec 8))) : Bool := match s with
  | none => false
  | some L => L.isEmpty
theorem IsR.torn {w : World} {B g : Nat} (hg : g < B) (h : Blk w g 74 [.slice none 0 0, .bool false]) : IsR w B (some g) none := fun g' e => by cases e; exact ⟨hg, h⟩
theorem info47 : (Tryd.prog.info? 74).map (·.size) = some 2 := by kernel_rfl
theorem grown_setCells {w : World} {g : Nat} : ∀ (us : List Value) (o : Nat) (w' : World), w.grownBy w' (some g) → w.grownBy (w'.setCells g o us) (some g)
  | [], _, _, h => h
  | u :: us, o, w', h => grown_setCells us (o + 1) _ ⟨h.os, h.tape, h.output, by simpa [World.setCell] using h.size, fun k hk hne => (Below.heap_setCell _ _ _ _ (fun e => hne (by rw [e]))).trans (h.block k hk hne)⟩
theorem grown_refl (w : World) (r : Option Nat) : w.grownBy w r := ⟨rfl, rfl, rfl, Nat.le_refl _, fun _ _ _ => rfl⟩
theorem tear_any (p : Option Nat) (s : Option (List (BitVec 8))) (B : Nat) (w : World) (h : IsR w B p s) : Calls Tryd.prog 83 #[ptr p] w fun e w' => e = .returned (.tuple #[]) ∧ IsR w' B p none ∧ w.grownBy w' p := by
  have HT := Lib.hid (torn_any p s B w h)
  cases s with
  | none =>
    have HI := Lib.hid h
    obtain ⟨q, hq⟩ : ∃ q, q = ptr p := ⟨_, rfl⟩
    rw [← hq] at HT ⊢
    clear h hq
    go_enter Tryd.func83, Tryd.ntmps83
    go_wp2_with (go_at_call 41; (with_reducible refine HT.out.mono ?_); rintro e w' ⟨rfl, rfl⟩; dsimp only [Option.isNone])
    go_end0
    exact ⟨rfl, HI.out, grown_refl _ _⟩
  | some L =>
    obtain ⟨g, A, cap, rfl, hg, hb, _, hl, hm, _⟩ := h
    rw [ptr_some] at HT ⊢
    have HB := Lib.hid hb
    have c0 := hb.cell (j := 0) (v := .slice A L.length cap) rfl
    have c1 := hb.cell (j := 1) (v := .bool true) rfl
    have f0 := hb.free 0
    have f1 := hb.free 1
    clear hb hl hm
    go_enter Tryd.func83, Tryd.ntmps83
    go_wp2_with (go_at_call 41; (with_reducible refine HT.out.mono ?_); rintro e w' ⟨rfl, rfl⟩; dsimp only [Option.isNone])
    go_end0
    exact ⟨rfl, IsR.torn hg ((HB.out.set 0 _).set 1 _), grown_setCells [.slice none 0 0, .bool false] 0 _ (grown_refl _ _)⟩
open Go.RowKit
set_option maxRecDepth 100000
set_option linter.unusedVariables false
set_option linter.unusedSimpArgs false
theorem clone_any (A : Option Addr) (L : List (BitVec 8)) (cap B : Nat) (w : World) (hR : Rd w B A L) (hB : B ≤ w.heap.size) (hc : A = none → cap = 0) (hl : L.length ≤ 140737488355328) :
    Calls Tryd.prog 46 #[.slice A L.length cap] w fun e w' => ∃ v, e = .returned v ∧ OB w' w.heap.size v L ∧ Below w.heap.size w w' := by
  cases A with
  | none =>
    have hL : L = [] := by
      cases L with
      | nil => rfl
      | cons x r => obtain ⟨b, o, e, _⟩ := hR (by simp); cases e
    subst hL
    obtain rfl := hc rfl
    show Calls Tryd.prog 46 #[.slice none 0 0] w _
    have hq := Lib.run_eql_slice_nil (P := Tryd.prog)
    go_enter Tryd.func46, Tryd.ntmps46
    go_wp2
    go_ret
    exact ⟨_, rfl, OB.nil _ _, Below.refl _ _⟩
  | some a =>
    have hq := Lib.run_eql_slice_nil (P := Tryd.prog)
    have HO := Lib.hid (show OB (w.alloc (Obj.cells #[] 5)) w.heap.size (.slice (some ⟨w.heap.size, 0, none⟩) 0 0) [] from owns_empty w w.heap.size (Nat.le_refl _))
    have hb0 : Below w.heap.size w (w.alloc (Obj.cells #[] 5)) := (Below.refl _ _).alloc (Nat.le_refl _) _
    have HS := Lib.hid (src_of_rd (hR.keep (hb0.mono hB)))
    have HL : Hid (([] : List (BitVec 8)).length + L.length ≤ 140737488355328) := by show ([] : List (BitVec 8)).length + L.length ≤ _; simp; omega
    have HB := Lib.hid (show w.heap.size ≤ (w.alloc (Obj.cells #[] 5)).heap.size by simp)
    have HB0 := Lib.hid hb0
    clear hR hc hl hb0 hB
    go_enter Tryd.func46, Tryd.ntmps46
    go_wp2_with (refine wpList_push (o := ⟨some 7, _, _, _, _, _⟩) rfl (.tmp 5) (.tmp 6) rfl rfl w.heap.size _ [] L rfl HO.out (some a) L.length cap rfl rfl HS.out (fun h => by cases h) HL.out HB0.out HB.out (Nat.le_refl _) ?_; intro v3 w3 ho3 hb3 hb3')
    go_ret
    exact ⟨_, rfl, ho3, hb3⟩
open Go.RowKit
set_option maxRecDepth 100000
set_option linter.unusedVariables false
set_option linter.unusedSimpArgs false
theorem Own5.rd {w : World} {B : Nat} {A : Option Addr} {L : List (BitVec 8)} (h : Own5 w B A L) : Rd w B A L := fun hp => by
  obtain ⟨b, o, cur, e, hb, hh, hc⟩ := h hp
  refine ⟨b, o, e, hb, fun j hj => ?_⟩
  rw [← hc j hj]
  simp [World.cell?, hh]
theorem Own5.take {w : World} {B : Nat} {A : Option Addr} {L : List (BitVec 8)} (h : Own5 w B A L) (n : Nat) (hn : n ≤ L.length) : Own5 w B A (L.take n) := fun hp => by
  rw [List.length_take] at hp
  obtain ⟨b, o, cur, e, hb, hh, hc⟩ := h (by omega)
  refine ⟨b, o, cur, e, hb, hh, fun j hj => ?_⟩
  rw [List.length_take] at hj
  rw [hc j (by omega)]
  simp [List.getD, List.getElem?_take, show j < n by omega]
theorem Own5.drop {w : World} {B : Nat} {A : Option Addr} {L : List (BitVec 8)} {cap : Nat} (h : Own5 w B A L) (n : Nat) (hl : L.length ≤ cap) : Own5 w B (if cap = n then A else A.map (·.add n)) (L.drop n) := fun hp => by
  rw [List.length_drop] at hp
  obtain ⟨b, o, cur, rfl, hb, hh, hc⟩ := h (by omega)
  rw [if_neg (by omega)]
  refine ⟨b, o + n, cur, by simp [Addr.add_mid], hb, hh, fun j hj => ?_⟩
  rw [List.length_drop] at hj
  rw [Nat.add_assoc, hc (n + j) (by omega)]
  simp [List.getD]
theorem Own5.heap {w w' : World} {B : Nat} {A : Option Addr} {L : List (BitVec 8)} (h : Own5 w B A L) (hk : ∀ b cur, b < B → w.heap[b]? = some (.cells cur 5 (0, 0)) → w'.heap[b]? = w.heap[b]?) : Own5 w' B A L := fun hp => by
  obtain ⟨b, o, cur, e, hb, hh, hc⟩ := h hp
  exact ⟨b, o, cur, e, hb, by rw [hk b cur hb hh]; exact hh, hc⟩
theorem Own5.store {w : World} {B g : Nat} {A : Option Addr} {L : List (BitVec 8)} {T : Nat} {vs : List Value} (h : Own5 w B A L) (hg : Blk w g T vs) (hT : T ≠ 5) (o : Nat) (v : Value) : Own5 (w.setCell ⟨g, o, none⟩ v) B A L :=
  h.heap fun b cur _ hh => Below.heap_setCell _ _ _ _ fun (e : b = g) => by
    subst e
    unfold Blk at hg
    rw [hg] at hh
    injection hh with hh
    injection hh with _ hh
    exact hT hh
/-- What cut tells, and leaves behind. -/
def CutPost (s : Option (List (BitVec 8))) (n : Int) (B : Nat) (p : Option Nat) (w : World) (e : Ending) (w' : World) : Prop :=
  w.grownBy w' p ∧ (hasB s n = false → e = .returned (.tuple #[.slice none 0 0, .bool false]) ∧ IsR w' B p none) ∧
    (hasB s n = true → ∃ L A, s = some L ∧ e = .returned (.tuple #[.slice A n.toNat n.toNat, .bool true]) ∧ Own5 w' B A (L.take n.toNat) ∧ (A = none → n.toNat = 0) ∧ IsR w' B p (some (L.drop n.toNat)))
theorem cut_end {w W : World} {B g cap k : Nat} {A : Option Addr} {L : List (BitVec 8)} {v : Value} (hb : Blk w g 74 [.slice A L.length cap, .bool true]) (hg : g < B) (ho : Own5 w B A L) (hz : A = none → cap = 0) (hl : L.length ≤ cap) (hm : cap ≤ 9223372036854775807) (hk : k ≤ L.length) (hs : hasB (some L) k = true)
    (hW : W = w.setCell ⟨g, 0, none⟩ v) (hv : v = .slice (if cap = k then A else A.map (·.add k)) (L.length - k) (cap - k)) :
    CutPost (some L) k B (some g) w (.returned (.tuple #[.slice A k k, .bool true])) W := by
  subst hW
  refine ⟨grown_setCells [v] 0 _ (grown_refl _ _), (fun h => by rw [hs] at h; cases h), fun _ => ⟨L, A, rfl, rfl, ?_, ?_, ?_⟩⟩
  · exact (ho.take k hk).store hb (by decide) 0 v
  · intro h; have := hz h; simp; omega
  · refine ⟨g, _, cap - k, rfl, hg, ?_, (ho.drop k hl).store hb (by decide) 0 v, by simp; omega, by omega, fun h => ?_⟩
    · have := hb.set 0 v
      rw [hv] at this ⊢
      simpa using this
    · by_cases e : cap = k
      · omega
      · rw [if_neg e] at h
        have := hz (by simpa using h)
        omega
theorem cut_any (p : Option Nat) (s : Option (List (BitVec 8))) (n : Int) (B : Nat) (w : World) (h : IsR w B p s) :
    Calls Tryd.prog 84 #[ptr p, .int .i64 n] w (CutPost s n B p w) := by
  have HH := Lib.hid (has_any p s n B w h)
  by_cases hs : hasB s n = true
  · cases s with
    | none => cases hs
    | some L =>
      have hn : 0 ≤ n ∧ n ≤ L.length := by simpa [hasB] using hs
      obtain ⟨k, rfl⟩ : ∃ k : Nat, n = k := ⟨n.toNat, by omega⟩
      obtain ⟨g, A, cap, rfl, hg, hb, ho, hl, hm, hz⟩ := h
      rw [ptr_some] at HH ⊢
      rw [hs] at HH
      have c0 := hb.cell (j := 0) (v := .slice A L.length cap) rfl
      have f0 := hb.free 0
      have k1 : k ≤ L.length := by omega
      have HO := Lib.hid ho
      have HB := Lib.hid hb
      have HZ := Lib.hid hz
      have HSs := Lib.hid hs
      clear ho hb hz hs hn
      go_enter Tryd.func84, Tryd.ntmps84
      go_wp2_with (go_at_call 85; (with_reducible refine HH.out.mono ?_); rintro e w' ⟨rfl, rfl⟩; dsimp only)
      all_goals go_ret2
      · have hk : cap = k := by assumption
        refine cut_end HB.out hg HO.out HZ.out hl hm k1 HSs.out rfl ?_
        rw [if_pos hk, hk, Nat.sub_self]
      · have hk : ¬ cap = k := by assumption
        refine cut_end HB.out hg HO.out HZ.out hl hm k1 HSs.out rfl ?_
        rw [if_neg hk]
  · have hs' : hasB s n = false := by simpa using hs
    have HT := Lib.hid (tear_any p s B w h)
    rw [hs'] at HH
    have HS := Lib.hid hs'
    obtain ⟨q, hq⟩ : ∃ q, q = ptr p := ⟨_, rfl⟩
    rw [← hq] at HT HH ⊢
    clear h hq hs hs'
    go_enter Tryd.func84, Tryd.ntmps84
    go_wp2_with (first | (go_at_call 85; (with_reducible refine HH.out.mono ?_); rintro e w' ⟨rfl, rfl⟩; dsimp only) | (go_at_call 83; (with_reducible refine HT.out.mono ?_); rintro e w1 ⟨rfl, hI, hG⟩; dsimp only))
    go_ret2
    exact ⟨hG, fun _ => ⟨rfl, hI⟩, fun h => by rw [HS.out] at h; cases h⟩
open Go.RowKit
set_option maxRecDepth 100000
set_option linter.unusedVariables false
set_option linter.unusedSimpArgs false
theorem Blk.same {w w' : World} {b : Nat} {T : TypeId} {vs : List Value} (h : Blk w b T vs) (e : w'.heap[b]? = w.heap[b]?) : Blk w' b T vs := by unfold Blk at *; rw [e]; exact h
theorem IsR.keep {w w' : World} {B : Nat} {p : Option Nat} {s : Option (List (BitVec 8))} (h : IsR w B p s) (hk : ∀ b, b < B → w'.heap[b]? = w.heap[b]?) : IsR w' B p s := by
  cases s with
  | none => exact fun g e => ⟨(h g e).1, (h g e).2.same (hk g (h g e).1)⟩
  | some L =>
    obtain ⟨g, A, cap, e, hg, hb, ho, r⟩ := h
    exact ⟨g, A, cap, e, hg, hb.same (hk g hg), ho.heap fun b _ hb _ => hk b hb, r⟩
theorem IsR.below {w w' : World} {B B' : Nat} {p : Option Nat} {s : Option (List (BitVec 8))} (h : IsR w B p s) (hb : Below B' w w') (hB : B ≤ B') : IsR w' B p s := h.keep fun b h => hb.block b (by omega)
theorem OB.base {w : World} {B B' : Nat} {v : Value} {L : List (BitVec 8)} (h : OB w B v L) (hB : B' ≤ B) : OB w B' v L := by
  refine ⟨h.1, ?_⟩
  rcases h.2 with hn | ⟨g, cap, cur, rfl, hbb, r⟩
  · exact .inl hn
  · exact .inr ⟨g, cap, cur, rfl, by omega, r⟩
theorem grown_below {w w1 w2 : World} {p : Option Nat} (h : w.grownBy w1 p) (hb : Below w1.heap.size w1 w2) : w.grownBy w2 p :=
  ⟨hb.os.trans h.os, hb.tape.trans h.tape, hb.output.trans h.output, Nat.le_trans h.size hb.size, fun k hk hne => (hb.block k (Nat.lt_of_lt_of_le hk h.size)).trans (h.block k hk hne)⟩
def takeL (s : Option (List (BitVec 8))) (n : Int) : List (BitVec 8) := match s with
  | none => []
  | some L => if hasB (some L) n = true then L.take n.toNat else []
def cutS (s : Option (List (BitVec 8))) (n : Int) : Option (List (BitVec 8)) := match s with
  | none => none
  | some L => if hasB (some L) n = true then some (L.drop n.toNat) else none
theorem cut_no {s : Option (List (BitVec 8))} {n : Int} (h : hasB s n = false) : takeL s n = [] ∧ cutS s n = none := by
  cases s with
  | none => exact ⟨rfl, rfl⟩
  | some L => exact ⟨by simp [takeL, h], by simp [cutS, h]⟩
theorem cut_yes {L : List (BitVec 8)} {n : Int} (h : hasB (some L) n = true) : takeL (some L) n = L.take n.toNat ∧ cutS (some L) n = some (L.drop n.toNat) ∧ n.toNat ≤ L.length :=
  ⟨by simp [takeL, h], by simp [cutS, h], by simp [hasB] at h; omega⟩
/-- What Take and Peek tell: new memory with the bytes X. -/
def NewPost (X : List (BitVec 8)) (s : Option (List (BitVec 8))) (B : Nat) (p : Option Nat) (w : World) (e : Ending) (w' : World) : Prop :=
  ∃ v, e = .returned v ∧ OB w' w.heap.size v X ∧ IsR w' B p s ∧ w.grownBy w' p
theorem IsR.len {w : World} {B : Nat} {p : Option Nat} {L : List (BitVec 8)} (h : IsR w B p (some L)) : L.length ≤ 9223372036854775807 := by
  obtain ⟨g, A, cap, _, _, _, _, h1, h2, _⟩ := h
  omega
theorem clone_len (A : Option Addr) (L : List (BitVec 8)) (m cap B : Nat) (w : World) (hm : L.length = m) (hR : Rd w B A L) (hB : B ≤ w.heap.size) (hc : A = none → cap = 0) (hl : L.length ≤ 140737488355328) :
    Calls Tryd.prog 46 #[.slice A m cap] w fun e w' => ∃ v, e = .returned v ∧ OB w' w.heap.size v L ∧ Below w.heap.size w w' := by
  subst hm; exact clone_any A L cap B w hR hB hc hl
theorem take_any (p : Option Nat) (s : Option (List (BitVec 8))) (n : Int) (B : Nat) (w : World) (h : IsR w B p s) (hB : B ≤ w.heap.size) (hl : ∀ L, s = some L → L.length ≤ 100000000) :
    Calls Tryd.prog 60 #[ptr p, .int .i64 n] w (NewPost (takeL s n) (cutS s n) B p w) := by
  have HC := Lib.hid (cut_any p s n B w h)
  by_cases hs : hasB s n = true
  · cases s with
    | none => cases hs
    | some L =>
      have HS := Lib.hid hs
      obtain ⟨h1, h2, h3⟩ := cut_yes hs
      have h4 := hl L rfl
      rw [h1, h2]
      have HL := Lib.hid h4
      obtain ⟨q, hq⟩ : ∃ q, q = ptr p := ⟨_, rfl⟩
      rw [← hq] at HC ⊢
      have HN := Lib.hid h3
      have HBB := Lib.hid hB
      clear h hq hs hl h1 h2 h3 h4 hB
      go_enter Tryd.func60, Tryd.ntmps60
      go_wp2_with (go_at_call 84; (with_reducible refine HC.out.mono ?_); rintro e w1 hP; obtain ⟨hG, hN, hY⟩ := hP; obtain ⟨M, A, hM, rfl, hO, hA, hI⟩ := hY HS.out; cases hM; clear hN hY; have HK := Lib.hid (clone_len A (L.take n.toNat) n.toNat n.toNat B w1 (by rw [List.length_take]; have := HN.out; omega) hO.rd (Nat.le_trans HBB.out hG.size) hA (by rw [List.length_take]; have := HL.out; omega)); clear hA hO HL HN; dsimp only)
      go_wp2_with (go_at_call 46; refine HK.out.mono ?_; rintro e w2 ⟨v, rfl, hO, hb⟩; dsimp only)
      go_ret
      exact ⟨_, rfl, hO.base hG.size, hI.below hb (Nat.le_trans HBB.out hG.size), grown_below hG hb⟩
  · have hs' : hasB s n = false := by simpa using hs
    obtain ⟨h1, h2⟩ := cut_no hs'
    rw [h1, h2]
    have HS := Lib.hid hs'
    have HK := fun w => Lib.hid (clone_any none [] 0 0 w (fun h => by simp at h) (Nat.zero_le _) (fun _ => rfl) (by decide))
    obtain ⟨q, hq⟩ : ∃ q, q = ptr p := ⟨_, rfl⟩
    rw [← hq] at HC ⊢
    have HBB := Lib.hid hB
    clear h hq hs hl h1 h2 hs' hB
    go_enter Tryd.func60, Tryd.ntmps60
    go_wp2_with (first | (go_at_call 84; (with_reducible refine HC.out.mono ?_); rintro e w1 hP; obtain ⟨hG, hN, hY⟩ := hP; obtain ⟨rfl, hI⟩ := hN HS.out; clear hN hY; dsimp only) | (go_at_call 46; refine (HK _).out.mono ?_; rintro e w2 ⟨v, rfl, hO, hb⟩; dsimp only))
    go_ret
    exact ⟨_, rfl, hO.base hG.size, hI.below hb (Nat.le_trans HBB.out hG.size), grown_below hG hb⟩
open Go.RowKit
set_option maxRecDepth 100000
set_option linter.unusedVariables false
set_option linter.unusedSimpArgs false
/-- The number that bytes form, the lowest first. -/
def lev : List (BitVec 8) → Nat
  | [] => 0
  | x :: r => x.toNat + 256 * lev r
theorem lev_lt : ∀ (L : List (BitVec 8)), lev L < 2 ^ (8 * L.length)
  | [] => by simp [lev]
  | x :: r => by
    have h := lev_lt r
    have hx := x.isLt
    have e : 2 ^ (8 * (x :: r).length) = 256 * 2 ^ (8 * r.length) := by
      rw [List.length_cons, show 8 * (r.length + 1) = 8 * r.length + 8 by omega, Nat.pow_add]; omega
    unfold lev
    omega
theorem lev_app : ∀ (L M : List (BitVec 8)), lev (L ++ M) = lev L + 2 ^ (8 * L.length) * lev M
  | [], M => by simp [lev]
  | x :: r, M => by
    rw [List.cons_append, lev, lev, lev_app r M, List.length_cons, show 8 * (r.length + 1) = 8 + 8 * r.length by omega, Nat.pow_add]
    rw [show (2 : Nat) ^ 8 = 256 from rfl, Nat.mul_add, Nat.mul_assoc]
    omega
theorem lev_snoc (L : List (BitVec 8)) (k : Nat) (hk : k < L.length) : lev (L.take (k + 1)) = lev (L.take k) + 2 ^ (8 * k) * (L.getD k 0).toNat := by
  rw [List.take_succ_eq_append_getElem hk, lev_app, List.length_take, Nat.min_eq_left (by omega)]
  simp [lev, List.getD, hk]
theorem or_add (a b k : Nat) (h : a < 2 ^ k) : a ||| (b * 2 ^ k) = a + 2 ^ k * b := by
  rw [Nat.or_comm, ← Nat.shiftLeft_eq, ← Nat.shiftLeft_add_eq_or_of_lt h, Nat.shiftLeft_eq]
  rw [Nat.mul_comm b]
  omega
theorem num_step (L : List (BitVec 8)) (k : Nat) (hk : k < L.length) (hk8 : k < 8) :
    bits .or .u64 (lev (L.take k) : Int) (IntKind.u64.wrap (IntKind.u64.wrap (Bt (L.getD k 0)) * 2 ^ (8 * k))) = (lev (L.take (k + 1)) : Int) := by
  obtain ⟨x, hx⟩ : ∃ x, x = L.getD k 0 := ⟨_, rfl⟩
  have hlt := lev_lt (L.take k)
  rw [List.length_take, Nat.min_eq_left (by omega)] at hlt
  have hp : (2 : Nat) ^ (8 * k) * 256 ≤ 18446744073709551616 := by
    have : (2 : Nat) ^ (8 * k) * 256 = 2 ^ (8 * k + 8) := by rw [Nat.pow_add]
    rw [this]
    exact Nat.pow_le_pow_right (by omega) (show 8 * k + 8 ≤ 64 by omega)
  rw [lev_snoc L k hk, ← hx, ← or_add _ _ _ hlt]
  have hb := x.isLt
  have hm : x.toNat * 2 ^ (8 * k) < 18446744073709551616 := by
    have : x.toNat * 2 ^ (8 * k) ≤ 255 * 2 ^ (8 * k) := Nat.mul_le_mul_right _ (by omega)
    have h0 : 0 < 2 ^ (8 * k) := Nat.two_pow_pos _
    omega
  have e : IntKind.u64.wrap (IntKind.u64.wrap (Bt x) * 2 ^ (8 * k)) = ((x.toNat * 2 ^ (8 * k) : Nat) : Int) := by
    rw [show IntKind.u64.wrap (Bt x) = Bt x by rw [IntKind.wrap_u64]; unfold Bt; omega, IntKind.wrap_u64]
    unfold Bt
    rw [show ((x.toNat : Int) * 2 ^ (8 * k)) = ((x.toNat * 2 ^ (8 * k) : Nat) : Int) by simp]
    omega
  rw [e, u64_or_nat _ _ (by omega) (by omega)]
def numV (s : Option (List (BitVec 8))) (n : Int) : Nat := if isW n then lev (takeL s n) else 0
def numS (s : Option (List (BitVec 8))) (n : Int) : Option (List (BitVec 8)) := if isW n then cutS s n else none
theorem isW_pos {n : Int} (h : isW n = true) : 1 ≤ n ∧ n ≤ 8 := by
  simp [isW] at h
  omega
/-- What Num tells, and leaves behind. -/
def NumPost (x : Nat) (s : Option (List (BitVec 8))) (B : Nat) (p : Option Nat) (w : World) (e : Ending) (w' : World) : Prop :=
  e = .returned (.int .u64 x) ∧ IsR w' B p s ∧ w.grownBy w' p
theorem num_any (p : Option Nat) (s : Option (List (BitVec 8))) (n : Int) (B : Nat) (w : World) (h : IsR w B p s) (hB : B ≤ w.heap.size) :
    Calls Tryd.prog 58 #[ptr p, .int .i64 n] w (NumPost (numV s n) (numS s n) B p w) := by
  have HW := Lib.hid (isWidth_any n w)
  by_cases hw : isW n = true
  · have HC := Lib.hid (cut_any p s n B w h)
    rw [hw] at HW
    by_cases hs : hasB s n = true
    · cases s with
      | none => cases hs
      | some L =>
        have hn := isW_pos hw
        obtain ⟨k, rfl⟩ : ∃ k : Nat, n = k := ⟨n.toNat, by omega⟩
        obtain ⟨h1, h2, h3⟩ := cut_yes hs
        have e1 : numV (some L) k = lev (L.take k) := by unfold numV; rw [if_pos hw, h1]; rfl
        have e2 : numS (some L) k = some (L.drop k) := by unfold numS; rw [if_pos hw, h2]; rfl
        rw [e1, e2]
        have hk1 : 1 ≤ k := by omega
        have hk8 : k ≤ 8 := by omega
        have hlen : (L.take k).length = k := by rw [List.length_take]; simp at h3; omega
        have HS := Lib.hid hs
        obtain ⟨q, hq⟩ : ∃ q, q = ptr p := ⟨_, rfl⟩
        rw [← hq] at HC ⊢
        have HLen := Lib.hid hlen
        clear h hq hs h1 h2 h3 e1 e2 hw hn hlen
        go_enter Tryd.func58, Tryd.ntmps58
        go_upto_region 9 with (first | (go_at_call 82; (with_reducible refine HW.out.mono ?_); rintro e w' ⟨rfl, rfl⟩; dsimp only) | (go_at_call 84; (with_reducible refine HC.out.mono ?_); rintro e w1 hP; obtain ⟨hG, hN, hY⟩ := hP; obtain ⟨M, A, hM, rfl, hO, hA, hI⟩ := hY HS.out; cases hM; clear hN hY hA; dsimp only))
        rw [show ((k : Int).toNat) = k from rfl] at hO hI
        obtain ⟨X, hX⟩ : ∃ X, X = L.take k := ⟨_, rfl⟩
        have hlen : X.length = k := by rw [hX]; exact HLen.out
        rw [← hX] at hO ⊢
        obtain ⟨b, o, rfl, hbB, hc⟩ := hO.rd (by omega)
        have hst := num_step X
        rw [hlen] at hst
        have hfin : X.take k = X := List.take_of_length_le (by omega)
        rw [hlen] at hc
        have HF := Lib.hid hfin
        have HXe := Lib.hid hX
        have HX := Lib.hid hst
        have HCl := Lib.hid hc
        have HI := Lib.hid hI
        have HG := Lib.hid hG
        clear hO HLen HS HC hX hlen hst hfin hc hI hG
        go_loop [7, 23] (fun t i => ∃ j : Nat, j ≤ k ∧ i = .int .i64 j ∧ t = .int .u64 (lev (X.take j))) (fun _ i => k - (intOf i).toNat)
        case atStart => exact ⟨0, Nat.zero_le _, rfl, rfl⟩
        case round =>
          obtain ⟨j, hj, rfl, rfl⟩ := hrel
          by_cases hlt : j < k
          · have c0 := HCl.out j hlt
            have h0 : (0 : Int) ≤ (j : Int) := by omega
            have hmin : min (8 * j) 64 = 8 * j := by omega
            have hor := HX.out j hlt (by omega)
            obtain ⟨z, hz⟩ : ∃ z, z = lev (X.take j) := ⟨_, rfl⟩
            obtain ⟨z', hz'⟩ : ∃ z', z' = lev (X.take (j + 1)) := ⟨_, rfl⟩
            obtain ⟨y, hy⟩ : ∃ y, y = X.getD j 0 := ⟨_, rfl⟩
            have HZ := Lib.hid hz'
            rw [← hy] at c0 hor
            rw [← hz, ← hz'] at hor
            rw [← hz]
            clear hz hz' hy
            go_wp2
            go_round
            case rel => exact ⟨j + 1, by omega, by go_num, by rw [HZ.out]⟩
            case measure => simp [intOf]; omega
          · obtain rfl : j = k := by omega
            go_wp2
            go_ret
            exact ⟨ret_int (by rw [HF.out, HXe.out]), HI.out, HG.out⟩
    · have hs' : hasB s n = false := by simpa using hs
      obtain ⟨h1, h2⟩ := cut_no hs'
      have e1 : numV s n = 0 := by unfold numV; rw [if_pos hw, h1]; rfl
      have e2 : numS s n = none := by unfold numS; rw [if_pos hw, h2]
      rw [e1, e2]
      have HS := Lib.hid hs'
      obtain ⟨q, hq⟩ : ∃ q, q = ptr p := ⟨_, rfl⟩
      rw [← hq] at HC ⊢
      clear h hq hs h1 h2 hs' e1 e2 hw
      go_enter Tryd.func58, Tryd.ntmps58
      go_wp2_with (first | (go_at_call 82; (with_reducible refine HW.out.mono ?_); rintro e w' ⟨rfl, rfl⟩; dsimp only) | (go_at_call 84; (with_reducible refine HC.out.mono ?_); rintro e w1 hP; obtain ⟨hG, hN, hY⟩ := hP; obtain ⟨rfl, hI⟩ := hN HS.out; clear hN hY; dsimp only))
      go_ret
      exact ⟨rfl, hI, hG⟩
  · have hw' : isW n = false := by simpa using hw
    have HT := Lib.hid (tear_any p s B w h)
    rw [hw'] at HW
    have e1 : numV s n = 0 := by unfold numV; rw [if_neg hw]
    have e2 : numS s n = none := by unfold numS; rw [if_neg hw]
    rw [e1, e2]
    obtain ⟨q, hq⟩ : ∃ q, q = ptr p := ⟨_, rfl⟩
    rw [← hq] at HT ⊢
    clear h hq e1 e2 hw hw'
    go_enter Tryd.func58, Tryd.ntmps58
    go_wp2_with (first | (go_at_call 82; (with_reducible refine HW.out.mono ?_); rintro e w' ⟨rfl, rfl⟩; dsimp only) | (go_at_call 83; (with_reducible refine HT.out.mono ?_); rintro e w1 ⟨rfl, hI, hG⟩; dsimp only))
    go_ret
    exact ⟨rfl, hI, hG⟩
open Go.RowKit
set_option maxRecDepth 100000
set_option linter.unusedVariables false
set_option linter.unusedSimpArgs false
/-- The k lowest bytes of a number, the lowest first. -/
def les (n k : Nat) : List (BitVec 8) := (List.range k).map fun i => BitVec.ofNat 8 (n / 2 ^ (8 * i))
theorem les_succ (n k : Nat) : les n (k + 1) = les n k ++ [BitVec.ofNat 8 (n / 2 ^ (8 * k))] := by simp [les, List.range_succ]
theorem les_len (n k : Nat) : (les n k).length = k := by simp [les]
theorem byte_val (n k : Nat) : IntKind.u8.wrap ((n : Int) / 2 ^ (8 * k)) = Bt (BitVec.ofNat 8 (n / 2 ^ (8 * k))) := by
  rw [IntKind.wrap_u8']
  unfold Bt
  rw [BitVec.toNat_ofNat]
  have : ((n : Int) / 2 ^ (8 * k)) = ((n / 2 ^ (8 * k) : Nat) : Int) := by simp
  rw [this]
  omega
theorem run_make22 (n k : Nat) (h : n + k ≤ 281474976710656) (w : World) : ∃ cur : List Value, cur.length = n + k ∧
    (Instr.makeSlice 27 (.int .i64 (n : Int)) (.int .i64 ((n : Int) + (k : Int)))).run Tryd.prog w = .ok (.slice (some ⟨w.heap.size, 0, none⟩) n (n + k)) (w.alloc (.cells cur.toArray 5)) := by
  obtain ⟨i0, hi, hz0, hz1, hz2⟩ := info_parts info5
  have hr := run_make (P := Tryd.prog) w 27 5 i0 (.int .u8 0) Tryd.underlying27 hi hz0 .i64 .i64 (n : Int) ((n : Int) + (k : Int)) (by omega) (by omega) (by rw [hz2]; omega) (by omega)
  refine ⟨(madeCells (Value.int IntKind.u8 0).cells (((n : Int) + (k : Int)).toNat * i0.size)).toList, ?_, ?_⟩
  · rw [Array.length_toList]
    have := size_madeCells (Value.int IntKind.u8 0).cells (((n : Int) + (k : Int)).toNat * i0.size)
    rw [this, hz1]; omega
  · rw [hr]; rw [show ((n : Int)).toNat = n by omega, show ((n : Int) + (k : Int)).toNat = n + k by omega]
theorem ob_of_splice {w : World} {B g m : Nat} {L : List (BitVec 8)} {cur : List Value} (hc : cur.length = L.length + m) (hm : L.length + m ≤ maxLen) (hb : w.heap[g]? = some (.cells (splice cur 0 (vbs L)).toArray 5 (0, 0))) (hB : B ≤ g := by omega) :
    OB w B (.slice (some ⟨g, 0, none⟩) L.length (L.length + m)) L := by
  refine ⟨by rw [vbs_len]; omega, .inr ⟨g, L.length + m, _, rfl, hB, hb, by omega, hm, ?_, ?_⟩⟩
  · simp [splice, vbs_len]; omega
  · simp [splice, vbs_len]
/-- What Put tells. -/
def PutPost (L : List (BitVec 8)) (k : Int) (n : Nat) (w : World) (e : Ending) (w' : World) : Prop :=
  Below w.heap.size w w' ∧ ((isW k = true ∧ n < 2 ^ (8 * k.toNat) → ∃ v, e = .returned (.tuple #[v, .int .i64 0]) ∧ OB w' w.heap.size v (L ++ les n k.toNat)) ∧
    (¬ (isW k = true ∧ n < 2 ^ (8 * k.toNat)) → e = .returned (.tuple #[.slice none 0 0, .int .i64 2])))
open Go.RowKit
set_option linter.unusedVariables false
set_option linter.unusedSimpArgs false
set_option maxRecDepth 100000
/-- How many bytes follow the first one of the form of n. -/
def wid (n : Nat) : Nat := if n < 253 then 0 else if n < 65536 then 2 else if n < 4294967296 then 4 else 8
/-- The first byte of the form of n. -/
def fst (n : Nat) : Nat := if n < 253 then n else if n < 65536 then 253 else if n < 4294967296 then 254 else 255
/-- How many bytes follow a first byte. -/
def fol (b : Nat) : Nat := if b = 255 then 8 else if b = 254 then 4 else if b = 253 then 2 else 0
/-- The compact form of n. -/
def form (n : Nat) : List (BitVec 8) := BitVec.ofNat 8 (fst n) :: les n (wid n)
theorem fst_lt (n : Nat) : fst n < 256 := by
  unfold fst
  repeat' split
  all_goals omega
theorem fol_fst (n : Nat) : fol (fst n) = wid n := by
  unfold fol fst wid
  by_cases h1 : n < 253
  · simp only [h1, if_true]; rw [if_neg (by omega), if_neg (by omega), if_neg (by omega)]
  · by_cases h2 : n < 65536
    · simp [h1, h2]
    · by_cases h3 : n < 4294967296
      · simp [h1, h2, h3]
      · simp [h1, h2, h3]
theorem wid_le (n : Nat) : wid n ≤ 8 := by
  unfold wid
  repeat' split
  all_goals omega
theorem form_len (n : Nat) : (form n).length = 1 + wid n := by simp [form, les_len]; omega
theorem first_any (n : Nat) (w : World) : Calls Tryd.prog 104 #[.int .u64 n] w fun e w' => e = .returned (.int .u8 (fst n)) ∧ w = w' := by
  by_cases h1 : n < 253
  · have e : fst n = n := by simp [fst, h1]
    have h1' : (n : Int) < 253 := by omega
    rw [e]
    clear h1 e
    go_enter Tryd.func104, Tryd.ntmps104
    go_wp2
    go_ret
    exact ⟨rfl, rfl⟩
  · have h1' : ¬ (n : Int) < 253 := by omega
    by_cases h2 : n < 65536
    · have e : fst n = 253 := by simp [fst, h1, h2]
      have h2' : (n : Int) < 65536 := by omega
      rw [e]
      clear h1 h2 e
      go_enter Tryd.func104, Tryd.ntmps104
      go_wp2
      go_ret
      exact ⟨rfl, rfl⟩
    · have h2' : ¬ (n : Int) < 65536 := by omega
      by_cases h3 : n < 4294967296
      · have e : fst n = 254 := by simp [fst, h1, h2, h3]
        have h3' : (n : Int) < 4294967296 := by omega
        rw [e]
        clear h1 h2 h3 e
        go_enter Tryd.func104, Tryd.ntmps104
        go_wp2
        go_ret
        exact ⟨rfl, rfl⟩
      · have e : fst n = 255 := by simp [fst, h1, h2, h3]
        have h3' : ¬ (n : Int) < 4294967296 := by omega
        rw [e]
        clear h1 h2 h3 e
        go_enter Tryd.func104, Tryd.ntmps104
        go_wp2
        go_ret
        exact ⟨rfl, rfl⟩
theorem following_any (b : Nat) (w : World) : Calls Tryd.prog 103 #[.int .u8 b] w fun e w' => e = .returned (.int .i64 (fol b)) ∧ w = w' := by
  by_cases h1 : b = 255
  · subst h1
    go_enter Tryd.func103, Tryd.ntmps103
    go_wp2
    go_ret
    exact ⟨rfl, rfl⟩
  · have e1 : ((b : Int) == 255) = false := by simp; omega
    by_cases h2 : b = 254
    · subst h2
      go_enter Tryd.func103, Tryd.ntmps103
      go_wp2
      go_ret
      exact ⟨rfl, rfl⟩
    · have e2 : ((b : Int) == 254) = false := by simp; omega
      by_cases h3 : b = 253
      · subst h3
        go_enter Tryd.func103, Tryd.ntmps103
        go_wp2
        go_ret
        exact ⟨rfl, rfl⟩
      · have e3 : ((b : Int) == 253) = false := by simp; omega
        have e : fol b = 0 := by simp [fol, h1, h2, h3]
        rw [e]
        clear e h1 h2 h3
        go_enter Tryd.func103, Tryd.ntmps103
        go_wp2
        go_ret
        exact ⟨rfl, rfl⟩
theorem size_any (n : Nat) (w : World) : Calls Tryd.prog 105 #[.int .u64 n] w fun e w' => e = .returned (.int .i64 ((1 + wid n : Nat) : Int)) ∧ w = w' := by
  have K1 := Lib.hid (first_any n w)
  have K2 := Lib.hid (following_any (fst n) w)
  rw [fol_fst] at K2
  have hl := wid_le n
  obtain ⟨b, hb⟩ : ∃ b, b = fst n := ⟨_, rfl⟩
  obtain ⟨v, hv⟩ : ∃ v, v = wid n := ⟨_, rfl⟩
  rw [← hb] at K1 K2
  rw [← hv] at K2 hl ⊢
  clear hb hv
  go_enter Tryd.func105, Tryd.ntmps105
  go_wp2_with (first | (go_at_call 104; (with_reducible refine K1.out.mono ?_); rintro e w' ⟨rfl, rfl⟩; dsimp only) | (go_at_call 103; (with_reducible refine K2.out.mono ?_); rintro e w' ⟨rfl, rfl⟩; dsimp only))
  go_ret
  exact ⟨ret_int (by omega), rfl⟩
open Go.RowKit
set_option maxRecDepth 100000
set_option linter.unusedVariables false
set_option linter.unusedSimpArgs false
def Z32 : List (BitVec 8) := List.replicate 32 0
def hashL (s : Option (List (BitVec 8))) : List (BitVec 8) := if hasB s 32 then takeL s 32 else Z32
theorem hashL_len (s : Option (List (BitVec 8))) : (hashL s).length = 32 := by
  unfold hashL
  by_cases h : hasB s 32 = true
  · rw [if_pos h]
    cases s with
    | none => cases h
    | some L => rw [(cut_yes h).1]; have := (cut_yes h).2.2; simp at this ⊢; omega
  · rw [if_neg h]; rfl
theorem splice_all (Z R : List Value) (h : R.length = Z.length) : splice Z 0 R = R := by simp [splice, h]
theorem heap_setCells (b : Nat) : ∀ (us : List Value) (o k : Nat) {w : World}, k ≠ b → (w.setCells b o us).heap[k]? = w.heap[k]?
  | [], _, _, _, _ => rfl
  | u :: us, o, k, w, h => by
    show ((w.setCell ⟨b, o, none⟩ u).setCells b (o + 1) us).heap[k]? = _
    rw [heap_setCells b us (o + 1) k h, Below.heap_setCell _ _ _ _ h]
theorem setCells_same (b : Nat) : ∀ (us : List Value) (o : Nat) (w : World), (w.setCells b o us).os = w.os ∧ (w.setCells b o us).tape = w.tape ∧ (w.setCells b o us).output = w.output ∧ (w.setCells b o us).heap.size = w.heap.size
  | [], _, _ => ⟨rfl, rfl, rfl, rfl⟩
  | u :: us, o, w => by
    obtain ⟨h1, h2, h3, h4⟩ := setCells_same b us (o + 1) (w.setCell ⟨b, o, none⟩ u)
    exact ⟨h1, h2, h3, by show ((w.setCell ⟨b, o, none⟩ u).setCells b (o + 1) us).heap.size = _; rw [h4]; simp [World.setCell]⟩
/-- What Hash tells, and leaves behind. -/
def HashPost (X : List (BitVec 8)) (s : Option (List (BitVec 8))) (B : Nat) (p : Option Nat) (w : World) (e : Ending) (w' : World) : Prop :=
  e = .returned (.agg (vbs X).toArray) ∧ IsR w' B p s ∧ w.grownBy w' p
theorem Own5.below {w w' : World} {B : Nat} {A : Option Addr} {L : List (BitVec 8)} (h : Own5 w B A L) (hb : Below B w w') : Own5 w' B A L := h.heap fun b _ hl _ => hb.block b hl
theorem Own5.up {w : World} {B B' : Nat} {A : Option Addr} {L : List (BitVec 8)} (h : Own5 w B A L) (hB : B ≤ B') : Own5 w B' A L := fun hp => by
  obtain ⟨b, o, cur, e, hb, r⟩ := h hp
  exact ⟨b, o, cur, e, by omega, r⟩
theorem OB.own5 {w : World} {B : Nat} {v : Value} {L : List (BitVec 8)} (h : OB w B v L) : ∃ A cap, v = .slice A L.length cap ∧ Own5 w w.heap.size A L ∧ L.length ≤ cap ∧ cap ≤ 9223372036854775807 ∧ (A = none → cap = 0) := by
  have h' : w.ownsRow B 5 1 v L.length (vbs L) := h
  rcases h'.2 with ⟨rfl, h0⟩ | ⟨g, cap, cur, rfl, hb, hg, hn, hm, hcs, ht⟩
  · exact ⟨none, 0, by rw [h0], fun hp => by omega, by omega, by omega, fun _ => rfl⟩
  · refine ⟨_, cap, rfl, fun hp => ⟨g, 0, cur, rfl, (Array.getElem?_eq_some_iff.1 hg).1, hg, fun j hj => ?_⟩, hn, by unfold maxLen at hm; omega, fun h => by cases h⟩
    have h1 := h'.cells (g := g) rfl j (.int .u8 (Bt (L.getD j 0))) (vbs_at hj)
    rw [Addr.add_mid] at h1
    simpa [World.cell?, hg] using h1
theorem open_any (A : Option Addr) (L : List (BitVec 8)) (cap B : Nat) (w : World) (hR : Rd w B A L) (hB : B ≤ w.heap.size) (hc : A = none → cap = 0) (hl : L.length ≤ 100000000) :
    Calls Tryd.prog 26 #[.slice A L.length cap] w fun e w' => ∃ g, e = .returned (ptr (some g)) ∧ IsR w' (g + 1) (some g) (some L) ∧ w.heap.size ≤ g ∧ g < w'.heap.size ∧ Below w.heap.size w w' := by
  have HK := Lib.hid (clone_any A L cap B w hR hB hc (by omega))
  have HL := Lib.hid hl
  obtain ⟨n, hn⟩ : ∃ n, n = L.length := ⟨_, rfl⟩
  have HN := Lib.hid hn
  rw [← hn] at HK ⊢
  clear hR hc hl hn hB
  go_enter Tryd.func26, Tryd.ntmps26
  go_wp2_with (go_at_call 46; refine HK.out.mono ?_; rintro e w2 ⟨v, rfl, hO, hb⟩; obtain ⟨A', cap', rfl, hO5, h1, h2, h3⟩ := hO.own5; rw [← HN.out]; have H1 := Lib.hid h1; have H3 := Lib.hid h3; clear h1 h3; dsimp only)
  go_ret
  refine ⟨w2.heap.size, rfl, ⟨w2.heap.size, A', cap', rfl, by omega, ?_, (hO5.below ((Below.refl _ _).alloc (Nat.le_refl _) _)).up (by omega), H1.out, h2, H3.out⟩, hb.size, by simp, hb.alloc hb.size _⟩
  rw [← HN.out]
  exact Blk.new _ _ _
open Go.RowKit
set_option maxRecDepth 100000
set_option linter.unusedVariables false
set_option linter.unusedSimpArgs false
theorem rd_of_blk {w : World} {b T : Nat} {R : List (BitVec 8)} (h : Blk w b T (vbs R)) : Rd w w.heap.size (some ⟨b, 0, none⟩) R := fun hp => ⟨b, 0, rfl, h.lt, fun j hj => by rw [Nat.zero_add]; exact h.cell (vbs_at hj)⟩
theorem open_known (w : World) : Calls Tryd.prog 26 #[.slice (some ⟨w.heap.size, 0, none⟩) 3 3] (w.alloc (.cells #[.int .u8 2, .int .u8 1, .int .u8 5] 5)) fun e w' => ∃ g, e = .returned (ptr (some g)) ∧ IsR w' (g + 1) (some g) (some [2, 1, 5]) ∧ w.heap.size < g ∧ g < w'.heap.size ∧ Below w.heap.size w w' :=
  (open_any (some ⟨w.heap.size, 0, none⟩) [2, 1, 5] 3 _ _ (rd_of_blk (Blk.new w 5 #[.int .u8 2, .int .u8 1, .int .u8 5])) (Nat.le_refl _) (fun h => by cases h) (by decide)).mono fun e w' ⟨g, he, hi, h1, h2, h3⟩ =>
    ⟨g, he, hi, by simp at h1; omega, h2, ((Below.refl _ _).alloc (Nat.le_refl _) _).trans (h3.mono (by simp))⟩
theorem conv_lit {w : World} {A : Option Addr} {L : List (BitVec 8)} {n c B : Nat} (h : Rd w B A L) (hn : n = L.length) (s : ByteArray) (hs : strB L = s) : (convert 27 9 (.slice A n c)).run Tryd.prog w = .ok (.string s) w := by
  rw [← hs]
  exact run_conv_slice w Tryd.underlying27 Tryd.underlying5 Tryd.underlying9 A L n c hn B h
theorem num_w (w : World) (g B : Nat) (L : List (BitVec 8)) (n : Int) (x : Nat) (s : Option (List (BitVec 8))) (hx : numV (some L) n = x) (hs : numS (some L) n = s) (h : IsR w B (some g) (some L)) (hB : B ≤ w.heap.size) :
    Calls Tryd.prog 58 #[ptr (some g), .int .i64 n] w (NumPost x s B (some g) w) := by
  rw [← hx, ← hs]; exact num_any _ _ n B w h hB
theorem take_w (w : World) (g B : Nat) (L : List (BitVec 8)) (n : Int) (X : List (BitVec 8)) (s : Option (List (BitVec 8))) (hx : takeL (some L) n = X) (hs : cutS (some L) n = s) (h : IsR w B (some g) (some L)) (hB : B ≤ w.heap.size) (hl : L.length ≤ 100000000) :
    Calls Tryd.prog 60 #[ptr (some g), .int .i64 n] w (NewPost X s B (some g) w) := by
  rw [← hx, ← hs]; exact take_any _ _ n B w h hB (fun M e => by cases e; exact hl)
open Go.RowKit
set_option maxRecDepth 100000
set_option linter.unusedVariables false
set_option linter.unusedSimpArgs false
theorem byte_mod (n j : Nat) : IntKind.u8.wrap (((n / 2 ^ (8 * j) : Nat) : Int) % 256) = Bt (BitVec.ofNat 8 (n / 2 ^ (8 * j))) := by
  rw [IntKind.wrap_u8']
  unfold Bt
  rw [BitVec.toNat_ofNat]
  omega
theorem div_next (n j : Nat) : ((n / 2 ^ (8 * j) : Nat) : Int) / 256 = ((n / 2 ^ (8 * (j + 1)) : Nat) : Int) := by
  rw [show 8 * (j + 1) = 8 * j + 8 by omega, Nat.pow_add, ← Nat.div_div_eq_div_mul]
  simp
def DigPost (n m : Nat) (w : World) (e : Ending) (w' : World) : Prop :=
  ∃ v, e = .returned (.tuple #[v, .int .u64 ((n / 2 ^ (8 * m) : Nat) : Int)]) ∧ OB w' w.heap.size v (les n m) ∧ Below w.heap.size w w'
theorem digits_any (m n : Nat) (w : World) (hm : m ≤ 8) (hn : n < 18446744073709551616) : Calls Tryd.prog 75 #[.int .i64 m, .int .u64 n] w (DigPost n m w) := by
  go_enter Tryd.func75, Tryd.ntmps75
  go_wp2
  go_loopw [1, 6, 7] (fun x v i wq => ∃ j : Nat, j ≤ m ∧ i = .int .i64 j ∧ x = .int .u64 ((n / 2 ^ (8 * j) : Nat) : Int) ∧ OB wq w.heap.size v (les n j) ∧ Below w.heap.size w wq) (fun _ _ i _ => m - (intOf i).toNat)
  case atStart => exact ⟨0, Nat.zero_le _, rfl, by simp, OB.nil _ _, Below.refl _ _⟩
  case round =>
    obtain ⟨j, hj, rfl, rfl, ho, hb⟩ := hrel
    by_cases hlt : j < m
    · have hbv := byte_mod n j
      have hdn := div_next n j
      obtain ⟨x, hx⟩ : ∃ x, x = BitVec.ofNat 8 (n / 2 ^ (8 * j)) := ⟨_, rfl⟩
      obtain ⟨q, hq⟩ : ∃ q, q = n / 2 ^ (8 * j) := ⟨_, rfl⟩
      obtain ⟨q', hq'⟩ : ∃ q', q' = n / 2 ^ (8 * (j + 1)) := ⟨_, rfl⟩
      rw [← hx, ← hq] at hbv
      rw [← hq, ← hq'] at hdn
      rw [← hq]
      have Hx := Lib.hid hx
      have Hq' := Lib.hid hq'
      have HOo := Lib.hid (ho.alloc (.cells #[.int .u8 (Bt x)] 5))
      have hs := Lib.hid (src_one wr x)
      have HBo := Lib.hid (hb.alloc hb.size (.cells #[.int .u8 (Bt x)] 5))
      have HSz : Hid (w.heap.size ≤ (wr.alloc (.cells #[.int .u8 (Bt x)] 5)).heap.size) := HBo.out.size
      have HLe : Hid ((les n j).length + [x].length ≤ 140737488355328) := show (les n j).length + [x].length ≤ 140737488355328 by rw [les_len]; simp; omega
      have h0 : (0 : Int) ≤ (q : Int) := by omega
      clear ho hb hx hq hq'
      go_wp2_with (refine wpList_push (o := ⟨some 18, _, _, _, _, _⟩) rfl (.tmp 13) (.tmp 17) rfl rfl w.heap.size _ _ [x] rfl HOo.out (some ⟨wr.heap.size, 0, none⟩) 1 1 rfl (one_len _) hs.out (fun h => by cases h) HLe.out HBo.out HSz.out (Nat.le_refl _) ?_; intro v' w' h1 h2 h3)
      go_roundw
      case rel => exact ⟨j + 1, by omega, by go_num, by rw [show IntKind.u64.wrap (q' : Int) = q' by rw [IntKind.wrap_u64]; have := Nat.div_le_self n (2 ^ (8 * (j + 1))); have := Hq'.out; omega, ← Hq'.out], by rw [les_succ, ← Hx.out]; exact h1, h2⟩
      case measure => simp [intOf]; omega
    · obtain rfl : j = m := by omega
      have HOo := Lib.hid ho
      have HBo := Lib.hid hb
      clear ho hb
      go_wp2
      go_ret2
      exact ⟨_, rfl, HOo.out, HBo.out⟩
open Go.RowKit
set_option maxRecDepth 100000
set_option linter.unusedVariables false
set_option linter.unusedSimpArgs false
theorem xor255 (x : BitVec 8) : bits .xor .u8 (Bt x) 255 = Bt (x ^^^ 255) := by
  unfold Bt
  rw [show (255 : Int) = ((255 : Nat) : Int) from rfl, u8_xor_nat _ _ x.isLt (by omega), BitVec.toNat_xor]
  rfl
theorem OB.set {w : World} {B g n cap k : Nat} {X : List (BitVec 8)} (h : OB w B (.slice (some ⟨g, 0, none⟩) n cap) X) (hk : k < X.length) (z : BitVec 8) : OB (w.setCell ⟨g, k, none⟩ (.int .u8 (Bt z))) B (.slice (some ⟨g, 0, none⟩) n cap) (X.set k z) := by
  refine ⟨by rw [vbs_len]; simp, ?_⟩
  rcases h.2 with ⟨hn, _⟩ | ⟨g', cap', cur, hv, hbb, hgg, h1, h2, h3, h4⟩
  · cases hn
  · cases hv
    refine .inr ⟨g, cap, cur.setIfInBounds k (.int .u8 (Bt z)), by rw [List.length_set], hbb, ?_, by rw [List.length_set]; exact h1, h2, by simpa using h3, ?_⟩
    · simp only [World.setCell, Array.getElem?_modify, hgg]
      simp
    · rw [← vbs_set, ← h4, Array.toList_setIfInBounds, List.length_set, List.take_set]
theorem OB.cells {w : World} {B g n cap k : Nat} {X : List (BitVec 8)} (h : OB w B (.slice (some ⟨g, 0, none⟩) n cap) X) (hk : k < X.length) : w.cell? ⟨g, k, none⟩ = some (.int .u8 (Bt (X.getD k 0))) ∧ w.frozen? ⟨g, k, none⟩ = false ∧ B ≤ g ∧ n = X.length := by
  have h' : w.ownsRow B 5 1 (.slice (some ⟨g, 0, none⟩) n cap) X.length (vbs X) := h
  rcases h'.2 with ⟨hn, _⟩ | ⟨g', cap', cur, hv, hbb, hgg, h1, h2, h3, h4⟩
  · cases hn
  · cases hv
    have hc := h'.cells (g := g) rfl k _ (vbs_at hk)
    rw [Addr.add_mid, Nat.zero_add] at hc
    exact ⟨hc, by simp [World.frozen?, hgg], hbb, rfl⟩
theorem OB.form {w : World} {B n cap : Nat} {A : Option Addr} {X : List (BitVec 8)} (h : OB w B (.slice A n cap) X) (hp : 0 < X.length) : ∃ g, A = some ⟨g, 0, none⟩ := by
  rcases h.2 with ⟨_, h0⟩ | ⟨g, cap', cur, hv, _⟩
  · omega
  · cases hv; exact ⟨g, rfl⟩
theorem conv_n {w : World} {A : Option Addr} {L : List (BitVec 8)} {n c B : Nat} (h : Rd w B A L) (hn : n = L.length) : (convert 27 9 (.slice A n c)).run Tryd.prog w = .ok (.string (strB L)) w :=
  run_conv_slice w Tryd.underlying27 Tryd.underlying5 Tryd.underlying9 A L n c hn B h
theorem up_to {w w' : World} {B B' : Nat} {A : Option Addr} {R : List (BitVec 8)} (h : Rd w B A R) (hb : Below B' w w') (hB : B ≤ B') : Rd w' B A R := h.keep (hb.mono hB)
open Go.RowKit
set_option linter.unusedVariables false
set_option linter.unusedSimpArgs false
set_option maxRecDepth 100000
/-- What a call that lays bytes tells: new memory with the bytes X. -/
def LaidPost (X : List (BitVec 8)) (w : World) (e : Ending) (w' : World) : Prop :=
  ∃ v, e = .returned v ∧ OB w' w.heap.size v X ∧ Below w.heap.size w w'
theorem Bt_fst (n : Nat) : Bt (BitVec.ofNat 8 (fst n)) = (fst n : Int) := by
  unfold Bt
  rw [BitVec.toNat_ofNat]
  have := fst_lt n
  omega
theorem put_any (A : Option Addr) (L : List (BitVec 8)) (cap B : Nat) (n : Nat) (w : World) (hR : Rd w B A L) (hB : B ≤ w.heap.size) (hl : L.length ≤ 100000000) :
    Calls Tryd.prog 97 #[.slice A L.length cap, .int .u64 n] w (LaidPost (L ++ form n) w) := by
  have K14 := Lib.hid (size_any n w)
  have K25 := Lib.hid (fun w => first_any n w)
  have K26 := Lib.hid (fun w => following_any (fst n) w)
  rw [fol_fst] at K26
  obtain ⟨m, hm⟩ : ∃ m, m = wid n := ⟨_, rfl⟩
  have hm8 : m ≤ 8 := by rw [hm]; exact wid_le n
  rw [← hm] at K14 K26
  obtain ⟨x0, hx0⟩ : ∃ x, x = BitVec.ofNat 8 (fst n) := ⟨_, rfl⟩
  have hx1 : (fst n : Int) = Bt x0 := by rw [hx0]; exact (Bt_fst n).symm
  rw [hx1] at K25 K26
  have HF : Hid (form n = [x0] ++ les n m) := show form n = [x0] ++ les n m by rw [hx0, hm]; rfl
  obtain ⟨cur, hcl, hmk⟩ := run_make22 L.length (1 + m) (by omega) w
  rw [show (((1 + m : Nat)) : Int) = 1 + (m : Int) by omega] at hmk
  have HR := Lib.hid hR
  have HBB := Lib.hid hB
  have HL := Lib.hid hl
  have HCl := Lib.hid hcl
  clear hm hx0 hx1 hR hcl hB
  go_enter Tryd.func97, Tryd.ntmps97
  go_upto_region 2 with (go_at_call 105; (with_reducible refine K14.out.mono ?_); rintro e w' ⟨rfl, rfl⟩; dsimp only)
  generalize hW1 : w.alloc (.cells cur.toArray 5) = W1
  have hB1 : Blk W1 w.heap.size 5 cur := by rw [← hW1]; exact Blk.new w 5 cur.toArray
  have hb1 : Below w.heap.size w W1 := by rw [← hW1]; exact (Below.refl _ _).alloc (Nat.le_refl _) _
  have HB1 := Lib.hid hB1
  have Hb1 := Lib.hid hb1
  have c1 : Hid ((vbs L).length = Nat.min L.length L.length) := show (vbs L).length = min L.length L.length by rw [vbs_len]; omega
  have c2 : Hid (0 < (vbs L).length → (some (⟨w.heap.size, 0, none⟩ : Addr)) = some ⟨w.heap.size, 0, none⟩ ∧ ∃ ad : Addr, A = some ad ∧ ∀ j v, (vbs L)[j]? = some v → W1.cell? (ad.add j) = some v) := fun hp => by
    rw [vbs_len] at hp
    obtain ⟨b, o, e, hlt, hc⟩ := HR.out hp
    refine ⟨rfl, ⟨b, o, none⟩, e, fun j v hv => ?_⟩
    have hj : j < L.length := by have := (List.getElem?_eq_some_iff.1 hv).1; rwa [vbs_len] at this
    rw [vbs_at hj] at hv
    rw [Addr.add_mid, Hb1.out.cell (p := ⟨b, o + j, none⟩) (by have := HBB.out; show b < _; omega), hc j hj]; exact hv
  have c3 : Hid (0 + (vbs L).length ≤ cur.length) := show 0 + (vbs L).length ≤ cur.length by rw [vbs_len, HCl.out]; omega
  clear hW1 hB1 hb1 hmk
  go_upto_region 3 with (refine wpList_copy_splice (o := ⟨some 17, _, _, _, _, _⟩) rfl (.tmp 15) (.tmp 16) 27 27 rfl 5 Tryd.underlying27 (by kernel_rfl) (some ⟨w.heap.size, 0, none⟩) A L.length (L.length + (1 + m)) L.length cap rfl rfl w.heap.size 0 cur 5 HB1.out (vbs L) c1.out c2.out c3.out (vbs_one L) w.heap.size w Hb1.out (Nat.le_refl _) ?_; intro w2 hB2 hb2)
  have hO : OB w2 w.heap.size (.slice (some ⟨w.heap.size, 0, none⟩) L.length (L.length + (1 + m))) L := ob_of_splice HCl.out (by unfold maxLen; omega) hB2
  have HO := Lib.hid (hO.alloc (.cells #[.int .u8 (Bt x0)] 5))
  have Hb2 := Lib.hid (hb2.alloc hb2.size (.cells #[.int .u8 (Bt x0)] 5))
  have hs := Lib.hid (src_one w2 x0)
  have HSz : Hid (w.heap.size ≤ (w2.alloc (.cells #[.int .u8 (Bt x0)] 5)).heap.size) := Hb2.out.size
  have HLe : Hid (L.length + [x0].length ≤ 140737488355328) := show L.length + [x0].length ≤ 140737488355328 by simp; omega
  clear hO hb2 hB2 HB1 Hb1 c1 c2 c3 HR HCl
  go_upto_region 4 with (first
    | (go_at_call 104; (with_reducible refine (K25.out _).mono ?_); rintro e w' ⟨rfl, rfl⟩; dsimp only)
    | (refine wpList_push (o := ⟨some 22, _, _, _, _, _⟩) rfl (.tmp 18) (.tmp 21) rfl rfl w.heap.size _ _ [x0] rfl HO.out (some ⟨w2.heap.size, 0, none⟩) 1 1 rfl (one_len _) hs.out (fun h => by cases h) HLe.out Hb2.out HSz.out (Nat.le_refl _) ?_; intro v3 w3 h1 h2 h3))
  have HO3 := Lib.hid h1
  have HB3 := Lib.hid h2
  clear h1 h2 h3 HO Hb2 hs HSz HLe
  go_wp2_with (first
    | (go_at_call 104; (with_reducible refine (K25.out _).mono ?_); rintro e w' ⟨rfl, rfl⟩; dsimp only)
    | (go_at_call 103; (with_reducible refine (K26.out _).mono ?_); rintro e w' ⟨rfl, rfl⟩; dsimp only))
  go_loopw [5, 26] (fun v i wq => ∃ j : Nat, j ≤ m ∧ i = .int .i64 j ∧ OB wq w.heap.size v (L ++ ([x0] ++ les n j)) ∧ Below w.heap.size w wq) (fun _ i _ => m - (intOf i).toNat)
  case atStart => exact ⟨0, Nat.zero_le _, rfl, by simpa [les] using HO3.out, HB3.out⟩
  case round =>
    obtain ⟨j, hj, rfl, ho, hb⟩ := hrel
    by_cases hlt : j < m
    · have h0 : (0 : Int) ≤ (j : Int) := by omega
      have hmin2 : min (8 * j) 64 = 8 * j := by omega
      have hbv := byte_val n j
      obtain ⟨x, hx⟩ : ∃ x, x = BitVec.ofNat 8 (n / 2 ^ (8 * j)) := ⟨_, rfl⟩
      rw [← hx] at hbv
      have Hx := Lib.hid hx
      have HOo := Lib.hid (ho.alloc (.cells #[.int .u8 (Bt x)] 5))
      have hs := Lib.hid (src_one wr x)
      have HBo := Lib.hid (hb.alloc hb.size (.cells #[.int .u8 (Bt x)] 5))
      have HSz : Hid (w.heap.size ≤ (wr.alloc (.cells #[.int .u8 (Bt x)] 5)).heap.size) := HBo.out.size
      have HLe : Hid ((L ++ ([x0] ++ les n j)).length + [x].length ≤ 140737488355328) := show (L ++ ([x0] ++ les n j)).length + [x].length ≤ 140737488355328 by rw [List.length_append, List.length_append, les_len]; simp; omega
      clear ho hb hx
      go_wp2_with (refine wpList_push (o := ⟨some 36, _, _, _, _, _⟩) rfl (.tmp 29) (.tmp 35) rfl rfl w.heap.size _ _ [x] rfl HOo.out (some ⟨wr.heap.size, 0, none⟩) 1 1 rfl (one_len _) hs.out (fun h => by cases h) HLe.out HBo.out HSz.out (Nat.le_refl _) ?_; intro v' w' h1 h2 h3)
      go_roundw
      case rel => exact ⟨j + 1, by omega, by go_num, by rw [les_succ, ← Hx.out]; simpa [List.append_assoc] using h1, h2⟩
      case measure => simp [intOf]; omega
    · obtain rfl : j = m := by omega
      have HOo := Lib.hid ho
      have HBo := Lib.hid hb
      clear ho hb
      go_wp2
      go_ret
      exact ⟨_, rfl, by rw [HF.out]; exact HOo.out, HBo.out⟩
open Go.RowKit
set_option linter.unusedVariables false
set_option linter.unusedSimpArgs false
set_option maxRecDepth 100000
theorem put_n (A : Option Addr) (L : List (BitVec 8)) (l cap B : Nat) (n : Nat) (w : World) (hL : L.length = l) (hR : Rd w B A L) (hB : B ≤ w.heap.size) (hl : L.length ≤ 100000000) :
    Calls Tryd.prog 97 #[.slice A l cap, .int .u64 n] w (LaidPost (L ++ form n) w) := by subst hL; exact put_any A L cap B n w hR hB hl
theorem putText_any (A A2 : Option Addr) (L T : List (BitVec 8)) (cap cap2 B : Nat) (w : World) (hR : Rd w B A L) (hR2 : Rd w B A2 T) (hB : B ≤ w.heap.size) (hc2 : A2 = none → cap2 = 0) (hl : L.length ≤ 100000000) (hl2 : T.length ≤ 100000000) :
    Calls Tryd.prog 71 #[.slice A L.length cap, .slice A2 T.length cap2] w (LaidPost (L ++ form T.length ++ T) w) := by
  have K10 := Lib.hid (put_any A L cap B T.length w hR hB hl)
  obtain ⟨l, hll⟩ : ∃ l, l = L.length := ⟨_, rfl⟩
  obtain ⟨m, hmm⟩ : ∃ m, m = T.length := ⟨_, rfl⟩
  have HM := Lib.hid hmm
  have HLl := Lib.hid hll
  have Hl := Lib.hid hl
  have hm8 : m ≤ 100000000 := by omega
  have HR2 := Lib.hid hR2
  have HB := Lib.hid hB
  have Hc2 := Lib.hid hc2
  have HF := Lib.hid (form_len T.length)
  have HW := Lib.hid (wid_le T.length)
  rw [← hll, ← hmm] at K10
  rw [← hmm] at HF HW
  rw [← hll, ← hmm]
  clear hll hmm hR hR2 hB hc2 hl hl2
  go_enter Tryd.func71, Tryd.ntmps71
  go_wp2_with (first
    | (go_at_call 97; (with_reducible refine K10.out.mono ?_); rintro e w1 ⟨v, rfl, hv, hb⟩; have HV := Lib.hid hv; have HB1 := Lib.hid hb; have HS := Lib.hid (src_of_rd (HR2.out.keep (hb.mono HB.out))); clear hv hb; dsimp only)
    | (refine wpList_push (o := ⟨some 11, _, _, _, _, _⟩) rfl (.tmp 9) (.tmp 10) rfl rfl w.heap.size _ _ T rfl HV.out A2 m cap2 rfl HM.out HS.out Hc2.out (by have := HM.out; have := HF.out; have := HW.out; have := HLl.out; have := Hl.out; rw [List.length_append]; omega) HB1.out HB1.out.size (Nat.le_refl _) ?_; intro v3 w3 h1 h2 h3))
  go_ret
  exact ⟨_, rfl, h1, h2⟩
open Go.RowKit
set_option linter.unusedVariables false
set_option linter.unusedSimpArgs false
set_option maxRecDepth 100000
theorem end_any (p : Option Nat) (s : Option (List (BitVec 8))) (B : Nat) (w : World) (h : IsR w B p s) : Calls Tryd.prog 39 #[ptr p] w fun e w' => e = .returned (.bool (endS s)) ∧ w = w' := by
  have HT := Lib.hid (torn_any p s B w h)
  cases s with
  | none =>
    obtain ⟨q, hq⟩ : ∃ q, q = ptr p := ⟨_, rfl⟩
    rw [← hq] at HT ⊢
    clear h hq
    go_enter Tryd.func39, Tryd.ntmps39
    go_wp2_with (go_at_call 41; (with_reducible refine HT.out.mono ?_); rintro e w' ⟨rfl, rfl⟩; dsimp only [Option.isNone])
    go_ret
    exact ⟨rfl, rfl⟩
  | some L =>
    obtain ⟨g, A, cap, rfl, _, hb, _, hl, hm, _⟩ := h
    rw [ptr_some] at HT ⊢
    have c0 := hb.cell (j := 0) (v := .slice A L.length cap) rfl
    clear hb hl hm
    cases L with
    | nil =>
      go_enter Tryd.func39, Tryd.ntmps39
      go_wp2_with (go_at_call 41; (with_reducible refine HT.out.mono ?_); rintro e w' ⟨rfl, rfl⟩; dsimp only [Option.isNone])
      go_ret
      exact ⟨rfl, rfl⟩
    | cons x r =>
      obtain ⟨n, hn⟩ : ∃ n, n = (x :: r).length := ⟨_, rfl⟩
      have hp : ((n : Int) == 0) = false := by rw [hn]; simp; omega
      rw [← hn] at c0
      clear hn
      go_enter Tryd.func39, Tryd.ntmps39
      go_wp2_with (go_at_call 41; (with_reducible refine HT.out.mono ?_); rintro e w' ⟨rfl, rfl⟩; dsimp only [Option.isNone])
      go_ret
      exact ⟨rfl, rfl⟩
theorem peek_any (p : Option Nat) (s : Option (List (BitVec 8))) (n : Int) (B : Nat) (w : World) (h : IsR w B p s) (hB : B ≤ w.heap.size) (hl : ∀ L, s = some L → L.length ≤ 100000000) :
    Calls Tryd.prog 59 #[ptr p, .int .i64 n] w (NewPost (takeL s n) s B p w) := by
  have HC := Lib.hid (has_any p s n B w h)
  have HI := Lib.hid h
  have HBB := Lib.hid hB
  by_cases hs : hasB s n = true
  · cases s with
    | none => cases hs
    | some L =>
      obtain ⟨h1, h2, h3⟩ := cut_yes hs
      have h4 := hl L rfl
      have hn : 0 ≤ n ∧ n ≤ L.length := by simpa [hasB] using hs
      obtain ⟨k, rfl⟩ : ∃ k : Nat, n = k := ⟨n.toNat, by omega⟩
      obtain ⟨g, A, cap, rfl, hg, hb, ho, hlc, hm, hz⟩ := h
      rw [ptr_some] at HC ⊢
      rw [hs] at HC
      rw [h1]
      have c0 := hb.cell (j := 0) (v := .slice A L.length cap) rfl
      have k1 : k ≤ cap := by omega
      have HK := Lib.hid (clone_len A (L.take k) k cap B w (by rw [List.length_take]; omega) (ho.take k (by omega)).rd hB hz (by rw [List.length_take]; omega))
      clear hs hl h1 h2 h3 h4 hn hb ho hz hB
      go_enter Tryd.func59, Tryd.ntmps59
      go_wp2_with (first | (go_at_call 85; (with_reducible refine HC.out.mono ?_); rintro e w' ⟨rfl, rfl⟩; dsimp only) | (go_at_call 46; refine HK.out.mono ?_; rintro e w2 ⟨v, rfl, hO, hb⟩; dsimp only))
      go_ret
      exact ⟨_, rfl, hO, HI.out.below hb HBB.out, grown_below (grown_refl _ _) hb⟩
  · have hs' : hasB s n = false := by simpa using hs
    obtain ⟨h1, h2⟩ := cut_no hs'
    rw [h1]
    rw [hs'] at HC
    obtain ⟨q, hq⟩ : ∃ q, q = ptr p := ⟨_, rfl⟩
    rw [← hq] at HC ⊢
    clear h hq hs hl h1 h2 hs' hB
    go_enter Tryd.func59, Tryd.ntmps59
    go_wp2_with (go_at_call 85; (with_reducible refine HC.out.mono ?_); rintro e w' ⟨rfl, rfl⟩; dsimp only)
    go_ret
    exact ⟨_, rfl, OB.nil _ _, HI.out, grown_refl _ _⟩
theorem zero42 : ∀ w, (zeroValue 38).run Tryd.prog w = .ok (.agg (vbs Z32).toArray) w := fun _ => by kernel_rfl
theorem slice42 (b : Nat) (w : World) : (Instr.sliceAt 38 (.pointer (some ⟨b, 0, none⟩)) none none none).run Tryd.prog w = .ok (.slice (some ⟨b, 0, none⟩) 32 32) w := by
  rw [run_sliceAt_array_all w 38 _ (by kernel_rfl)]
  have hs : (sizeOf (Tryd.prog.elem 38)).run Tryd.prog w = .ok 1 w := by kernel_rfl
  have hl : Tryd.prog.arrayLen 38 = 32 := by kernel_rfl
  rw [hs, hl]
  rfl
theorem info42 : (Tryd.prog.info? 38).map (·.size) = some 32 := by kernel_rfl
theorem i42 {vs : List Value} (h : vs.length = 32) : (Tryd.prog.info? 38).map (·.size) = some vs.length := by rw [h]; exact info42
set_option maxHeartbeats 1000000 in
theorem hash_any (p : Option Nat) (s : Option (List (BitVec 8))) (B : Nat) (w : World) (h : IsR w B p s) (hB : B ≤ w.heap.size) :
    Calls Tryd.prog 88 #[ptr p] w (HashPost (hashL s) (cutS s 32) B p w) := by
  have hz := zero42
  have hB0 := (Blk.new w 38 (vbs Z32).toArray).alloc (.cells (vbs Z32).toArray 38)
  have hB1 := Blk.new (w.alloc (.cells (vbs Z32).toArray 38)) 38 (vbs Z32).toArray
  have hbW : Below w.heap.size w ((w.alloc (.cells (vbs Z32).toArray 38)).alloc (.cells (vbs Z32).toArray 38)) := ((Below.refl _ _).alloc (Nat.le_refl _) _).alloc (by simp) _
  have es : (w.alloc (.cells (vbs Z32).toArray 38)).heap.size = w.heap.size + 1 := by simp
  rw [es] at hB1
  have HC := Lib.hid (cut_any p s 32 B _ (h.below hbW hB))
  have HL := Lib.hid (hashL_len s)
  have HD : Hid (hashL s = if hasB s 32 then takeL s 32 else Z32) := rfl
  have HBB := Lib.hid hB
  have hlt : ∀ g, p = some g → g < w.heap.size := fun g e => by
    subst e
    cases s with
    | none => have := (h g rfl).1; omega
    | some L => obtain ⟨g', _, _, e, hg, _⟩ := h; cases e; omega
  have HLt := Lib.hid hlt
  obtain ⟨q, hq⟩ : ∃ q, q = ptr p := ⟨_, rfl⟩
  rw [← hq] at HC ⊢
  clear h hB hlt hq es
  go_enter Tryd.func88, Tryd.ntmps88
  go_upto_region 2 with fail
  generalize (w.alloc (.cells (vbs Z32).toArray 38)).alloc (.cells (vbs Z32).toArray 38) = W at hB0 hB1 hbW HC ⊢
  have HB0 := Lib.hid hB0
  have HB1 := Lib.hid hB1
  have HW := Lib.hid hbW
  clear hB0 hB1 hbW hz
  by_cases hs : hasB s 32 = true
  · have HS := Lib.hid hs
    have hD := HD.out
    rw [if_pos hs] at hD
    have HD2 := Lib.hid hD
    have HT : Hid (cutS s 32 = s.bind fun L => some (L.drop 32)) := by
      cases s with
      | none => cases hs
      | some L => rw [(cut_yes hs).2.1]; exact rfl
    have HE : Hid (∀ L, s = some L → takeL s 32 = L.take 32) := fun L e => by subst e; exact (cut_yes hs).1
    have HRl : Hid (∀ L, s = some L → (L.take 32).length = 32) := fun L e => by subst e; have := (cut_yes hs).2.2; simp at this ⊢; omega
    clear hs hD HD
    go_upto_region 3 with (go_at_call 84; (with_reducible refine HC.out.mono ?_); rintro e W1 hP; obtain ⟨hG, hN, hY⟩ := hP; obtain ⟨M, A, hM, rfl, hO, hA, hI0⟩ := hY HS.out; clear hN hY hA; have HM := Lib.hid hM; clear hM; dsimp only)
    rw [show ((32 : Int).toNat) = 32 from rfl] at hO hI0
    have hI : IsR W1 B p (cutS s 32) := by rw [HT.out, HM.out]; exact hI0
    obtain ⟨R, hR⟩ : ∃ R, R = M.take 32 := ⟨_, rfl⟩
    have hRl : R.length = 32 := by rw [hR]; exact HRl.out M HM.out
    have HR : Hid (R.length ≤ 32) := show R.length ≤ 32 by omega
    rw [← hR] at hO
    have HRd := Lib.hid hO.rd
    have hlenE : (32 : Nat) = R.length := hRl.symm
    have HX : Hid (splice (vbs Z32) 0 (vbs R) = vbs (hashL s)) := show splice (vbs Z32) 0 (vbs R) = vbs (hashL s) by
      rw [splice_all _ _ (by rw [vbs_len, vbs_len, hRl]; rfl), HD2.out, HE.out M HM.out, hR]
    have HRl0 := Lib.hid hRl
    clear hO hI0 hR HRl HE HD2 HT hRl hlenE HM
    have hb1 : Blk W1 (w.heap.size + 1) 38 (vbs Z32) := HB1.out.grown hG (fun e => by have := HLt.out _ e.symm; omega)
    have hb0 : Blk W1 w.heap.size 38 (vbs Z32) := HB0.out.grown hG (fun e => by have := HLt.out _ e.symm; omega)
    have hsl := slice42 (w.heap.size + 1) W1
    have c1 : Hid ((vbs R).length = Nat.min 32 32) := show (vbs R).length = min 32 32 by rw [vbs_len]; have := HRl0.out; omega
    have c2 : Hid (0 < (vbs R).length → (some (⟨w.heap.size + 1, 0, none⟩ : Addr)) = some ⟨w.heap.size + 1, 0, none⟩ ∧ ∃ ad : Addr, A = some ad ∧ ∀ j v, (vbs R)[j]? = some v → W1.cell? (ad.add j) = some v) := fun hp => by
      rw [vbs_len] at hp
      obtain ⟨b, o, e, hlt, hc⟩ := HRd.out hp
      refine ⟨rfl, ⟨b, o, none⟩, e, fun j v hv => ?_⟩
      have hj : j < R.length := by have := (List.getElem?_eq_some_iff.1 hv).1; rwa [vbs_len] at this
      rw [vbs_at hj] at hv
      rw [Addr.add_mid, hc j hj]; exact hv
    have c3 : Hid (0 + (vbs R).length ≤ (vbs Z32).length) := show 0 + (vbs R).length ≤ (vbs Z32).length by rw [vbs_len, vbs_len]; have := HR.out; simp [Z32]; omega
    have HB1' := Lib.hid hb1
    have HB0' := Lib.hid hb0
    have HG := Lib.hid hG
    have HI := Lib.hid hI
    clear hb1 hb0 hG hI HB0 HB1 HC
    go_upto_region 4 with (refine wpList_copy_splice (o := ⟨some 13, _, _, _, _, _⟩) rfl (.tmp 11) (.tmp 12) 27 27 rfl 5 Tryd.underlying27 (by kernel_rfl) (some ⟨w.heap.size + 1, 0, none⟩) A 32 32 32 32 rfl rfl (w.heap.size + 1) 0 (vbs Z32) 38 HB1'.out (vbs R) c1.out c2.out c3.out (vbs_one R) (w.heap.size + 1) W1 (Below.refl _ _) (Nat.le_refl _) ?_; intro w2 hB2 hb2)
    rw [HX.out] at hB2
    have hB2' : Blk w2 (w.heap.size + 1) 38 (vbs (hashL s)) := hB2
    have HRg := Lib.hid hB2'.range
    have hq0 : Blk w2 w.heap.size 38 (vbs Z32) := HB0'.out.below hb2 (by omega)
    have HTh : Hid (w2.there w.heap.size 0 32) := hq0.there
    have hlen : (vbs (hashL s)).length = 32 := by rw [vbs_len]; exact HL.out
    have HLn := Lib.hid hlen
    have HI42 := Lib.hid (i42 hlen)
    have HQ0 := Lib.hid hq0
    have HB2 := Lib.hid hb2
    clear hB2 hB2' hq0 hlen hb2 hsl c1 c2 c3 HB1' HB0'
    go_wp2_with (first | (with_reducible refine wpList_load_mid rfl 38 (.tmp 3) rfl (w.heap.size + 1) 0 rfl (vbs (hashL s)) _ HRg.out Tryd.underlying38 rfl HI42.out ?_) | (with_reducible refine wpList_store_mid rfl 38 (.tmp 2) (.tmp 14) rfl w.heap.size 0 (vbs (hashL s)).toArray rfl rfl (there_arr HTh.out HLn.out) (info_arr HI42.out) (all_oneCell_toArray (vbs_one _)) ?_))
    have hS := HQ0.out.setCells (vbs (hashL s)) (by rw [HLn.out]; rfl)
    have hlv := run_loadVar_mid (P := Tryd.prog) (w2.setCells w.heap.size 0 (vbs (hashL s))) w.heap.size 0 38 _ _ hS.range Tryd.underlying38 rfl HI42.out
    have hP : HashPost (hashL s) (cutS s 32) B p w (.returned (.agg (vbs (hashL s)).toArray)) (w2.setCells w.heap.size 0 (vbs (hashL s))) := by
      refine ⟨rfl, ?_, ?_⟩
      · exact (HI.out.below HB2.out (by have := HBB.out; omega)).keep fun b hb => heap_setCells _ _ _ _ (by have := HBB.out; omega)
      · refine ⟨?_, ?_, ?_, ?_, fun k hk hne => ?_⟩
        · rw [(setCells_same _ _ _ _).1, HB2.out.os, HG.out.os, HW.out.os]
        · rw [(setCells_same _ _ _ _).2.1, HB2.out.tape, HG.out.tape, HW.out.tape]
        · rw [(setCells_same _ _ _ _).2.2.1, HB2.out.output, HG.out.output, HW.out.output]
        · rw [(setCells_same _ _ _ _).2.2.2]; exact Nat.le_trans HW.out.size (Nat.le_trans HG.out.size HB2.out.size)
        · rw [heap_setCells _ _ _ _ (by omega), HB2.out.block k (by omega), HG.out.block k (Nat.lt_of_lt_of_le hk HW.out.size) hne, HW.out.block k hk]
    exact bodyPost_ret (v := .agg (vbs (hashL s)).toArray) (by simp [results, Tryd.results88, asAddr, Act.put, hlv]) rfl hP
  · have hs' : hasB s 32 = false := by simpa using hs
    have HS := Lib.hid hs'
    have hD := HD.out
    rw [if_neg hs] at hD
    have HD2 := Lib.hid hD
    have HT : Hid (cutS s 32 = none) := (cut_no hs').2
    clear hs hs' hD HD
    go_upto_region 3 with (go_at_call 84; (with_reducible refine HC.out.mono ?_); rintro e W1 hP; obtain ⟨hG, hN, hY⟩ := hP; obtain ⟨rfl, hI0⟩ := hN HS.out; clear hN hY; dsimp only)
    have hI : IsR W1 B p (cutS s 32) := by rw [HT.out]; exact hI0
    obtain ⟨R, hR⟩ : ∃ R : List (BitVec 8), R = [] := ⟨_, rfl⟩
    have hRl : R.length = 0 := by rw [hR]; rfl
    have HR : Hid (R.length ≤ 32) := show R.length ≤ 32 by omega
    have HRl0 := Lib.hid hRl
    have HRd := Lib.hid (show Rd W1 B none R from fun hp => by omega)
    have HX : Hid (splice (vbs Z32) 0 (vbs R) = vbs (hashL s)) := show splice (vbs Z32) 0 (vbs R) = vbs (hashL s) by
      rw [HD2.out, hR]; rfl
    clear hI0 hR hRl HD2 HT
    have hb1 : Blk W1 (w.heap.size + 1) 38 (vbs Z32) := HB1.out.grown hG (fun e => by have := HLt.out _ e.symm; omega)
    have hb0 : Blk W1 w.heap.size 38 (vbs Z32) := HB0.out.grown hG (fun e => by have := HLt.out _ e.symm; omega)
    have hsl := slice42 (w.heap.size + 1) W1
    have c1 : Hid ((vbs R).length = Nat.min 0 32) := show (vbs R).length = min 0 32 by rw [vbs_len]; have := HRl0.out; omega
    have c2 : Hid (0 < (vbs R).length → (some (⟨w.heap.size + 1, 0, none⟩ : Addr)) = some ⟨w.heap.size + 1, 0, none⟩ ∧ ∃ ad : Addr, none = some ad ∧ ∀ j v, (vbs R)[j]? = some v → W1.cell? (ad.add j) = some v) := fun hp => by
      rw [vbs_len] at hp
      obtain ⟨b, o, e, hlt, hc⟩ := HRd.out hp
      refine ⟨rfl, ⟨b, o, none⟩, e, fun j v hv => ?_⟩
      have hj : j < R.length := by have := (List.getElem?_eq_some_iff.1 hv).1; rwa [vbs_len] at this
      rw [vbs_at hj] at hv
      rw [Addr.add_mid, hc j hj]; exact hv
    have c3 : Hid (0 + (vbs R).length ≤ (vbs Z32).length) := show 0 + (vbs R).length ≤ (vbs Z32).length by rw [vbs_len, vbs_len]; have := HR.out; simp [Z32]; omega
    have HB1' := Lib.hid hb1
    have HB0' := Lib.hid hb0
    have HG := Lib.hid hG
    have HI := Lib.hid hI
    clear hb1 hb0 hG hI HB0 HB1 HC
    go_upto_region 4 with (refine wpList_copy_splice (o := ⟨some 13, _, _, _, _, _⟩) rfl (.tmp 11) (.tmp 12) 27 27 rfl 5 Tryd.underlying27 (by kernel_rfl) (some ⟨w.heap.size + 1, 0, none⟩) none 32 32 0 0 rfl rfl (w.heap.size + 1) 0 (vbs Z32) 38 HB1'.out (vbs R) c1.out c2.out c3.out (vbs_one R) (w.heap.size + 1) W1 (Below.refl _ _) (Nat.le_refl _) ?_; intro w2 hB2 hb2)
    rw [HX.out] at hB2
    have hB2' : Blk w2 (w.heap.size + 1) 38 (vbs (hashL s)) := hB2
    have HRg := Lib.hid hB2'.range
    have hq0 : Blk w2 w.heap.size 38 (vbs Z32) := HB0'.out.below hb2 (by omega)
    have HTh : Hid (w2.there w.heap.size 0 32) := hq0.there
    have hlen : (vbs (hashL s)).length = 32 := by rw [vbs_len]; exact HL.out
    have HLn := Lib.hid hlen
    have HI42 := Lib.hid (i42 hlen)
    have HQ0 := Lib.hid hq0
    have HB2 := Lib.hid hb2
    clear hB2 hB2' hq0 hlen hb2 hsl c1 c2 c3 HB1' HB0'
    go_wp2_with (first | (with_reducible refine wpList_load_mid rfl 38 (.tmp 3) rfl (w.heap.size + 1) 0 rfl (vbs (hashL s)) _ HRg.out Tryd.underlying38 rfl HI42.out ?_) | (with_reducible refine wpList_store_mid rfl 38 (.tmp 2) (.tmp 14) rfl w.heap.size 0 (vbs (hashL s)).toArray rfl rfl (there_arr HTh.out HLn.out) (info_arr HI42.out) (all_oneCell_toArray (vbs_one _)) ?_))
    have hS := HQ0.out.setCells (vbs (hashL s)) (by rw [HLn.out]; rfl)
    have hlv := run_loadVar_mid (P := Tryd.prog) (w2.setCells w.heap.size 0 (vbs (hashL s))) w.heap.size 0 38 _ _ hS.range Tryd.underlying38 rfl HI42.out
    have hP : HashPost (hashL s) (cutS s 32) B p w (.returned (.agg (vbs (hashL s)).toArray)) (w2.setCells w.heap.size 0 (vbs (hashL s))) := by
      refine ⟨rfl, ?_, ?_⟩
      · exact (HI.out.below HB2.out (by have := HBB.out; omega)).keep fun b hb => heap_setCells _ _ _ _ (by have := HBB.out; omega)
      · refine ⟨?_, ?_, ?_, ?_, fun k hk hne => ?_⟩
        · rw [(setCells_same _ _ _ _).1, HB2.out.os, HG.out.os, HW.out.os]
        · rw [(setCells_same _ _ _ _).2.1, HB2.out.tape, HG.out.tape, HW.out.tape]
        · rw [(setCells_same _ _ _ _).2.2.1, HB2.out.output, HG.out.output, HW.out.output]
        · rw [(setCells_same _ _ _ _).2.2.2]; exact Nat.le_trans HW.out.size (Nat.le_trans HG.out.size HB2.out.size)
        · rw [heap_setCells _ _ _ _ (by omega), HB2.out.block k (by omega), HG.out.block k (Nat.lt_of_lt_of_le hk HW.out.size) hne, HW.out.block k hk]
    exact bodyPost_ret (v := .agg (vbs (hashL s)).toArray) (by simp [results, Tryd.results88, asAddr, Act.put, hlv]) rfl hP
open Go.RowKit
set_option linter.unusedVariables false
set_option linter.unusedSimpArgs false
set_option maxRecDepth 100000
theorem grown_trans {w w1 w2 : World} {p : Option Nat} (h : w.grownBy w1 p) (hb : w1.grownBy w2 p) : w.grownBy w2 p :=
  ⟨hb.os.trans h.os, hb.tape.trans h.tape, hb.output.trans h.output, Nat.le_trans h.size hb.size, fun k hk hne => (hb.block k (Nat.lt_of_lt_of_le hk h.size) hne).trans (h.block k hk hne)⟩
/-- The number that a form at the reader's place tells. -/
def gN (s : Option (List (BitVec 8))) : Nat := if fol (numV s 1) = 0 then numV s 1 else numV (numS s 1) (fol (numV s 1))
/-- What is left behind the form. -/
def gS (s : Option (List (BitVec 8))) : Option (List (BitVec 8)) := if fol (numV s 1) = 0 then numS s 1 else numS (numS s 1) (fol (numV s 1))
/-- The error that Get answers. -/
def gE (s : Option (List (BitVec 8))) (most : Nat) : Int := if (gS s).isNone = true ∨ numV s 1 ≠ fst (gN s) then 4 else if most < gN s then 3 else 0
/-- The number that Get answers. -/
def gV (s : Option (List (BitVec 8))) (most : Nat) : Nat := if gE s most = 0 then gN s else 0
def GetPost (x : Nat) (c : Int) (s : Option (List (BitVec 8))) (B : Nat) (p : Option Nat) (w : World) (e : Ending) (w' : World) : Prop :=
  e = .returned (.tuple #[.int .u64 x, .int .i64 c]) ∧ IsR w' B p s ∧ w.grownBy w' p
theorem takeL_len1 (s : Option (List (BitVec 8))) : (takeL s 1).length ≤ 1 := by
  cases s with
  | none => simp [takeL]
  | some L =>
    simp only [takeL]
    split
    · rw [List.length_take]; omega
    · simp
theorem numV_1 (s : Option (List (BitVec 8))) : numV s 1 < 256 := by
  have h := lev_lt (takeL s 1)
  have h1 := takeL_len1 s
  have : 2 ^ (8 * (takeL s 1).length) ≤ 2 ^ 8 := Nat.pow_le_pow_right (by omega) (by omega)
  unfold numV
  split <;> omega
theorem get_one (p q : Option Nat) (s s2 : Option (List (BitVec 8))) (x1 W f2 most B : Nat) (w : World) (h : IsR w B p s) (hB : B ≤ w.heap.size) (hx : numV s 1 = x1) (hs1 : numS s 1 = s2) (hW : fol x1 = W) (hW0 : W = 0) (hf2 : fst x1 = f2) :
    Calls Tryd.prog 92 #[ptr p, .int .u64 most] w (GetPost (if (s2.isNone = true ∨ x1 ≠ f2) ∨ most < x1 then 0 else x1) (if s2.isNone = true ∨ x1 ≠ f2 then 4 else if most < x1 then 3 else 0) s2 B p w) := by
  have K1 := Lib.hid (num_any p s 1 B w h hB)
  have hx8 : (x1 : Int) < 256 := by have := numV_1 s; omega
  have HB := Lib.hid hB
  have K26 := Lib.hid (fun w => following_any x1 w)
  have K25 := Lib.hid (fun w => first_any x1 w)
  rw [hx, hs1] at K1
  rw [hW] at K26
  rw [hf2] at K25
  subst hW0
  clear h hB hx hs1 hW hf2
  by_cases ht : s2.isNone = true
  · have HT := Lib.hid ht
    rw [if_pos (Or.inl (Or.inl ht)), if_pos (Or.inl ht)]
    clear ht
    go_enter Tryd.func92, Tryd.ntmps92
    go_wp2_with (first
      | (go_at_call 58; (with_reducible refine K1.out.mono ?_); rintro e w2 ⟨rfl, hi2, hg2⟩; have KT := Lib.hid (torn_any p _ B w2 hi2); have HI2 := Lib.hid hi2; have HG2 := Lib.hid hg2; rw [HT.out] at KT; clear hi2 hg2 K1; dsimp only)
      | (go_at_call 103; (with_reducible refine (K26.out _).mono ?_); rintro e w' ⟨rfl, rfl⟩; dsimp only)
      | (go_at_call 41; (with_reducible refine KT.out.mono ?_); rintro e w' ⟨rfl, rfl⟩; dsimp only)
      | (go_at_call 104; (with_reducible refine (K25.out _).mono ?_); rintro e w' ⟨rfl, rfl⟩; dsimp only))
    go_ret2
    exact ⟨rfl, HI2.out, HG2.out⟩
  · have htf : s2.isNone = false := Bool.eq_false_iff.2 ht
    have HT := Lib.hid htf
    by_cases hf : x1 = f2
    · have hff : ((x1 : Int) != (f2 : Int)) = false := by simp; omega
      by_cases hm : most < x1
      · have hm1 : (most : Int) < (x1 : Int) := by omega
        rw [if_pos (Or.inr hm), if_neg (by simp [ht, hf]), if_pos hm]
        clear ht htf hf hm
        go_enter Tryd.func92, Tryd.ntmps92
        go_wp2_with (first
          | (go_at_call 58; (with_reducible refine K1.out.mono ?_); rintro e w2 ⟨rfl, hi2, hg2⟩; have KT := Lib.hid (torn_any p _ B w2 hi2); have HI2 := Lib.hid hi2; have HG2 := Lib.hid hg2; rw [HT.out] at KT; clear hi2 hg2 K1; dsimp only)
          | (go_at_call 103; (with_reducible refine (K26.out _).mono ?_); rintro e w' ⟨rfl, rfl⟩; dsimp only)
          | (go_at_call 41; (with_reducible refine KT.out.mono ?_); rintro e w' ⟨rfl, rfl⟩; dsimp only)
          | (go_at_call 104; (with_reducible refine (K25.out _).mono ?_); rintro e w' ⟨rfl, rfl⟩; dsimp only))
        go_ret2
        exact ⟨rfl, HI2.out, HG2.out⟩
      · have hm1 : ¬ (most : Int) < (x1 : Int) := by omega
        rw [if_neg (by simp [ht, hf]; omega), if_neg (by simp [ht, hf]), if_neg hm]
        clear ht htf hf hm
        go_enter Tryd.func92, Tryd.ntmps92
        go_wp2_with (first
          | (go_at_call 58; (with_reducible refine K1.out.mono ?_); rintro e w2 ⟨rfl, hi2, hg2⟩; have KT := Lib.hid (torn_any p _ B w2 hi2); have HI2 := Lib.hid hi2; have HG2 := Lib.hid hg2; rw [HT.out] at KT; clear hi2 hg2 K1; dsimp only)
          | (go_at_call 103; (with_reducible refine (K26.out _).mono ?_); rintro e w' ⟨rfl, rfl⟩; dsimp only)
          | (go_at_call 41; (with_reducible refine KT.out.mono ?_); rintro e w' ⟨rfl, rfl⟩; dsimp only)
          | (go_at_call 104; (with_reducible refine (K25.out _).mono ?_); rintro e w' ⟨rfl, rfl⟩; dsimp only))
        go_ret2
        exact ⟨rfl, HI2.out, HG2.out⟩
    · have hff : ((x1 : Int) != (f2 : Int)) = true := by simp; omega
      rw [if_pos (Or.inl (Or.inr hf)), if_pos (Or.inr hf)]
      clear ht htf hf
      go_enter Tryd.func92, Tryd.ntmps92
      go_wp2_with (first
        | (go_at_call 58; (with_reducible refine K1.out.mono ?_); rintro e w2 ⟨rfl, hi2, hg2⟩; have KT := Lib.hid (torn_any p _ B w2 hi2); have HI2 := Lib.hid hi2; have HG2 := Lib.hid hg2; rw [HT.out] at KT; clear hi2 hg2 K1; dsimp only)
        | (go_at_call 103; (with_reducible refine (K26.out _).mono ?_); rintro e w' ⟨rfl, rfl⟩; dsimp only)
        | (go_at_call 41; (with_reducible refine KT.out.mono ?_); rintro e w' ⟨rfl, rfl⟩; dsimp only)
        | (go_at_call 104; (with_reducible refine (K25.out _).mono ?_); rintro e w' ⟨rfl, rfl⟩; dsimp only))
      go_ret2
      exact ⟨rfl, HI2.out, HG2.out⟩
theorem get_two (p q : Option Nat) (s s1 s2 : Option (List (BitVec 8))) (x1 x2 W f2 most B : Nat) (w : World) (h : IsR w B p s) (hB : B ≤ w.heap.size) (hx : numV s 1 = x1) (hs1 : numS s 1 = s1) (hW : fol x1 = W) (hx2 : numV s1 W = x2) (hs2 : numS s1 W = s2) (hW0 : W ≠ 0) (hf2 : fst x2 = f2) :
    Calls Tryd.prog 92 #[ptr p, .int .u64 most] w (GetPost (if (s2.isNone = true ∨ x1 ≠ f2) ∨ most < x2 then 0 else x2) (if s2.isNone = true ∨ x1 ≠ f2 then 4 else if most < x2 then 3 else 0) s2 B p w) := by
  have K1 := Lib.hid (num_any p s 1 B w h hB)
  have hx8 : (x1 : Int) < 256 := by have := numV_1 s; omega
  have HB := Lib.hid hB
  have K26 := Lib.hid (fun w => following_any x1 w)
  have K25 := Lib.hid (fun w => first_any x2 w)
  rw [hx, hs1] at K1
  rw [hW] at K26
  rw [hf2] at K25
  have HX2 := Lib.hid hx2
  have HS2 := Lib.hid hs2
  have hWp : (0 : Int) < (W : Int) := by omega
  obtain ⟨P, hP⟩ : ∃ P, P = ptr p := ⟨_, rfl⟩
  clear h hB hx hs1 hW hW0 hf2 hx2 hs2
  by_cases ht : s2.isNone = true
  · have HT := Lib.hid ht
    rw [if_pos (Or.inl (Or.inl ht)), if_pos (Or.inl ht)]
    clear ht
    go_enter Tryd.func92, Tryd.ntmps92
    go_wp2_with (first
      | (go_at_call 58; (with_reducible refine K2.out.mono ?_); rintro e w2 ⟨rfl, hi2, hg2⟩; have KT := Lib.hid (torn_any p _ B w2 hi2); have HI2 := Lib.hid hi2; have HG2 := Lib.hid hg2; rw [HT.out] at KT; clear hi2 hg2 K2; dsimp only)
      | (go_at_call 58; (with_reducible refine K1.out.mono ?_); rintro e w1 ⟨rfl, hi, hg⟩; have K2 := Lib.hid (num_any p s1 W B w1 hi (Nat.le_trans HB.out hg.size)); have HG1 := Lib.hid hg; rw [HX2.out, HS2.out] at K2; clear hi hg K1; dsimp only)
      | (go_at_call 103; (with_reducible refine (K26.out _).mono ?_); rintro e w' ⟨rfl, rfl⟩; dsimp only)
      | (go_at_call 41; (with_reducible refine KT.out.mono ?_); rintro e w' ⟨rfl, rfl⟩; dsimp only)
      | (go_at_call 104; (with_reducible refine (K25.out _).mono ?_); rintro e w' ⟨rfl, rfl⟩; dsimp only))
    go_ret2
    exact ⟨rfl, HI2.out, grown_trans HG1.out HG2.out⟩
  · have htf : s2.isNone = false := Bool.eq_false_iff.2 ht
    have HT := Lib.hid htf
    by_cases hf : x1 = f2
    · have hff : ((x1 : Int) != (f2 : Int)) = false := by simp; omega
      by_cases hm : most < x2
      · have hm1 : (most : Int) < (x2 : Int) := by omega
        rw [if_pos (Or.inr hm), if_neg (by simp [ht, hf]), if_pos hm]
        clear ht htf hf hm
        go_enter Tryd.func92, Tryd.ntmps92
        go_wp2_with (first
          | (go_at_call 58; (with_reducible refine K2.out.mono ?_); rintro e w2 ⟨rfl, hi2, hg2⟩; have KT := Lib.hid (torn_any p _ B w2 hi2); have HI2 := Lib.hid hi2; have HG2 := Lib.hid hg2; rw [HT.out] at KT; clear hi2 hg2 K2; dsimp only)
          | (go_at_call 58; (with_reducible refine K1.out.mono ?_); rintro e w1 ⟨rfl, hi, hg⟩; have K2 := Lib.hid (num_any p s1 W B w1 hi (Nat.le_trans HB.out hg.size)); have HG1 := Lib.hid hg; rw [HX2.out, HS2.out] at K2; clear hi hg K1; dsimp only)
          | (go_at_call 103; (with_reducible refine (K26.out _).mono ?_); rintro e w' ⟨rfl, rfl⟩; dsimp only)
          | (go_at_call 41; (with_reducible refine KT.out.mono ?_); rintro e w' ⟨rfl, rfl⟩; dsimp only)
          | (go_at_call 104; (with_reducible refine (K25.out _).mono ?_); rintro e w' ⟨rfl, rfl⟩; dsimp only))
        go_ret2
        exact ⟨rfl, HI2.out, grown_trans HG1.out HG2.out⟩
      · have hm1 : ¬ (most : Int) < (x2 : Int) := by omega
        rw [if_neg (by simp [ht, hf]; omega), if_neg (by simp [ht, hf]), if_neg hm]
        clear ht htf hf hm
        go_enter Tryd.func92, Tryd.ntmps92
        go_wp2_with (first
          | (go_at_call 58; (with_reducible refine K2.out.mono ?_); rintro e w2 ⟨rfl, hi2, hg2⟩; have KT := Lib.hid (torn_any p _ B w2 hi2); have HI2 := Lib.hid hi2; have HG2 := Lib.hid hg2; rw [HT.out] at KT; clear hi2 hg2 K2; dsimp only)
          | (go_at_call 58; (with_reducible refine K1.out.mono ?_); rintro e w1 ⟨rfl, hi, hg⟩; have K2 := Lib.hid (num_any p s1 W B w1 hi (Nat.le_trans HB.out hg.size)); have HG1 := Lib.hid hg; rw [HX2.out, HS2.out] at K2; clear hi hg K1; dsimp only)
          | (go_at_call 103; (with_reducible refine (K26.out _).mono ?_); rintro e w' ⟨rfl, rfl⟩; dsimp only)
          | (go_at_call 41; (with_reducible refine KT.out.mono ?_); rintro e w' ⟨rfl, rfl⟩; dsimp only)
          | (go_at_call 104; (with_reducible refine (K25.out _).mono ?_); rintro e w' ⟨rfl, rfl⟩; dsimp only))
        go_ret2
        exact ⟨rfl, HI2.out, grown_trans HG1.out HG2.out⟩
    · have hff : ((x1 : Int) != (f2 : Int)) = true := by simp; omega
      rw [if_pos (Or.inl (Or.inr hf)), if_pos (Or.inr hf)]
      clear ht htf hf
      go_enter Tryd.func92, Tryd.ntmps92
      go_wp2_with (first
        | (go_at_call 58; (with_reducible refine K2.out.mono ?_); rintro e w2 ⟨rfl, hi2, hg2⟩; have KT := Lib.hid (torn_any p _ B w2 hi2); have HI2 := Lib.hid hi2; have HG2 := Lib.hid hg2; rw [HT.out] at KT; clear hi2 hg2 K2; dsimp only)
        | (go_at_call 58; (with_reducible refine K1.out.mono ?_); rintro e w1 ⟨rfl, hi, hg⟩; have K2 := Lib.hid (num_any p s1 W B w1 hi (Nat.le_trans HB.out hg.size)); have HG1 := Lib.hid hg; rw [HX2.out, HS2.out] at K2; clear hi hg K1; dsimp only)
        | (go_at_call 103; (with_reducible refine (K26.out _).mono ?_); rintro e w' ⟨rfl, rfl⟩; dsimp only)
        | (go_at_call 41; (with_reducible refine KT.out.mono ?_); rintro e w' ⟨rfl, rfl⟩; dsimp only)
        | (go_at_call 104; (with_reducible refine (K25.out _).mono ?_); rintro e w' ⟨rfl, rfl⟩; dsimp only))
      go_ret2
      exact ⟨rfl, HI2.out, grown_trans HG1.out HG2.out⟩
theorem get_any (p : Option Nat) (s : Option (List (BitVec 8))) (most B : Nat) (w : World) (h : IsR w B p s) (hB : B ≤ w.heap.size) :
    Calls Tryd.prog 92 #[ptr p, .int .u64 most] w (GetPost (gV s most) (gE s most) (gS s) B p w) := by
  have key : ∀ (t : Bool) (a f x : Nat), (if (if t = true ∨ a ≠ f then (4 : Int) else if most < x then 3 else 0) = 0 then x else 0) = (if (t = true ∨ a ≠ f) ∨ most < x then 0 else x) := by
    intro t a f x
    by_cases h1 : t = true ∨ a ≠ f
    · rw [if_pos h1, if_pos (Or.inl h1), if_neg (by decide)]
    · rw [if_neg h1]
      by_cases h2 : most < x
      · rw [if_pos h2, if_pos (Or.inr h2), if_neg (by decide)]
      · rw [if_neg h2, if_pos rfl, if_neg (by intro h; rcases h with h | h; exact h1 h; exact h2 h)]
  by_cases hw : fol (numV s 1) = 0
  · have eN : gN s = numV s 1 := by unfold gN; rw [if_pos hw]
    have eS : gS s = numS s 1 := by unfold gS; rw [if_pos hw]
    have := get_one p p s (numS s 1) (numV s 1) _ (fst (numV s 1)) most B w h hB rfl rfl rfl hw rfl
    unfold gV gE
    rw [eN, eS, key]
    exact this
  · have eN : gN s = numV (numS s 1) (fol (numV s 1)) := by unfold gN; rw [if_neg hw]
    have eS : gS s = numS (numS s 1) (fol (numV s 1)) := by unfold gS; rw [if_neg hw]
    have := get_two p p s (numS s 1) (numS (numS s 1) (fol (numV s 1))) (numV s 1) (numV (numS s 1) (fol (numV s 1))) _ (fst (numV (numS s 1) (fol (numV s 1)))) most B w h hB rfl rfl rfl rfl rfl hw rfl
    unfold gV gE
    rw [eN, eS, key]
    exact this

open Go.RowKit
set_option linter.unusedVariables false
set_option linter.unusedSimpArgs false
set_option maxRecDepth 100000
def tE (s : Option (List (BitVec 8))) (most : Nat) : Int := if gE s most = 0 then (if (cutS (gS s) (gN s)).isNone = true then 4 else 0) else gE s most
def tL (s : Option (List (BitVec 8))) (most : Nat) : List (BitVec 8) := if tE s most = 0 then takeL (gS s) (gN s) else []
def tS (s : Option (List (BitVec 8))) (most : Nat) : Option (List (BitVec 8)) := if gE s most = 0 then cutS (gS s) (gN s) else gS s
def TextPost (X : List (BitVec 8)) (c : Int) (s : Option (List (BitVec 8))) (B : Nat) (p : Option Nat) (w : World) (e : Ending) (w' : World) : Prop :=
  ∃ v, e = .returned (.tuple #[v, .int .i64 c]) ∧ OB w' w.heap.size v X ∧ IsR w' B p s ∧ w.grownBy w' p
/-- No more than k bytes are left. -/
def Short (s : Option (List (BitVec 8))) (k : Nat) : Prop := ∀ L, s = some L → L.length ≤ k
theorem cutS_short {s : Option (List (BitVec 8))} {k : Nat} (h : Short s k) (n : Int) : Short (cutS s n) k := by
  cases s with
  | none => intro L e; cases e
  | some M =>
    intro L e
    simp only [cutS] at e
    split at e
    · cases e; have := h M rfl; rw [List.length_drop]; omega
    · cases e
theorem numS_short {s : Option (List (BitVec 8))} {k : Nat} (h : Short s k) (n : Int) : Short (numS s n) k := by
  unfold numS
  split
  · exact cutS_short h n
  · intro L e; cases e
theorem gS_short {s : Option (List (BitVec 8))} {k : Nat} (h : Short s k) : Short (gS s) k := by
  unfold gS
  split
  · exact numS_short h 1
  · exact numS_short (numS_short h 1) _
theorem gE_ne (s : Option (List (BitVec 8))) (most : Nat) (h : gE s most = 0) : gN s ≤ most := by
  unfold gE at h
  split at h
  · cases h
  · split at h
    · cases h
    · omega
theorem text_any (p : Option Nat) (s : Option (List (BitVec 8))) (most : Int) (B : Nat) (w : World) (h : IsR w B p s) (hB : B ≤ w.heap.size) (hl : Short s 100000000) (hm : most ≤ 9223372036854775807) :
    Calls Tryd.prog 89 #[ptr p, .int .i64 most] w (TextPost (tL s most.toNat) (tE s most.toNat) (tS s most.toNat) B p w) := by
  have K18 := Lib.hid (get_any p s most.toNat B w h hB)
  have hmax : max most 0 = (most.toNat : Int) := by omega
  obtain ⟨M, hM⟩ : ∃ M, M = most.toNat := ⟨_, rfl⟩
  rw [← hM] at K18 hmax ⊢
  have hMl : (M : Int) ≤ 9223372036854775807 := by omega
  have HB := Lib.hid hB
  obtain ⟨P, hP⟩ : ∃ P, P = ptr p := ⟨_, rfl⟩
  by_cases he : gE s M = 0
  · have hN := gE_ne s M he
    have hgl := gS_short hl
    have eS : tS s M = cutS (gS s) (gN s) := by unfold tS; rw [if_pos he]
    have eV : gV s M = gN s := by unfold gV; rw [if_pos he]
    have eE : tE s M = if (cutS (gS s) (gN s)).isNone = true then 4 else 0 := by unfold tE; rw [if_pos he]
    have eL : tL s M = if tE s M = 0 then takeL (gS s) (gN s) else [] := rfl
    rw [eL, eE, eS]
    rw [he, eV] at K18
    obtain ⟨x, hx⟩ : ∃ x, x = gN s := ⟨_, rfl⟩
    rw [← hx] at K18 hN ⊢
    obtain ⟨g, hg⟩ : ∃ g, g = gS s := ⟨_, rfl⟩
    rw [← hg] at K18 hgl ⊢
    have hx1 : (x : Int) ≤ 9223372036854775807 := by omega
    have HG := Lib.hid hgl
    obtain ⟨t, ht⟩ : ∃ t, t = (cutS g x).isNone := ⟨_, rfl⟩
    have HT := Lib.hid ht
    rw [← ht]
    clear h hB hl hm hM he hN hgl eS eV eE eL hx hg ht
    cases t with
    | true =>
      rw [if_pos rfl, if_neg (by decide : ¬ ((4 : Int) = 0))]
      go_enter Tryd.func89, Tryd.ntmps89
      go_wp2_with (first
        | (go_at_call 92; (with_reducible refine K18.out.mono ?_); rintro e w1 ⟨rfl, hi, hg⟩; have K31 := Lib.hid (take_any p g x B w1 hi (Nat.le_trans HB.out hg.size) HG.out); have HG1 := Lib.hid hg; clear hi hg K18; dsimp only)
        | (go_at_call 60; (with_reducible refine K31.out.mono ?_); rintro e w2 ⟨v, rfl, ho, hi, hg⟩; have KT := Lib.hid (torn_any p _ B w2 hi); have HI := Lib.hid hi; have HG2 := Lib.hid hg; rw [← HT.out] at KT; clear hi hg ho K31; dsimp only)
        | (go_at_call 41; (with_reducible refine KT.out.mono ?_); rintro e w' ⟨rfl, rfl⟩; dsimp only))
      go_ret2
      exact ⟨_, rfl, OB.nil _ _, HI.out, grown_trans HG1.out HG2.out⟩
    | false =>
      rw [if_neg (by decide : ¬ (false = true)), if_pos rfl]
      go_enter Tryd.func89, Tryd.ntmps89
      go_wp2_with (first
        | (go_at_call 92; (with_reducible refine K18.out.mono ?_); rintro e w1 ⟨rfl, hi, hg⟩; have K31 := Lib.hid (take_any p g x B w1 hi (Nat.le_trans HB.out hg.size) HG.out); have HG1 := Lib.hid hg; clear hi hg K18; dsimp only)
        | (go_at_call 60; (with_reducible refine K31.out.mono ?_); rintro e w2 ⟨v, rfl, ho, hi, hg⟩; have KT := Lib.hid (torn_any p _ B w2 hi); have HI := Lib.hid hi; have HO := Lib.hid ho; have HG2 := Lib.hid hg; rw [← HT.out] at KT; clear hi hg ho K31; dsimp only)
        | (go_at_call 41; (with_reducible refine KT.out.mono ?_); rintro e w' ⟨rfl, rfl⟩; dsimp only))
      go_ret2
      exact ⟨_, rfl, HO.out.base HG1.out.size, HI.out, grown_trans HG1.out HG2.out⟩
  · have eS : tS s M = gS s := by unfold tS; rw [if_neg he]
    have eV : gV s M = 0 := by unfold gV; rw [if_neg he]
    have eE : tE s M = gE s M := by unfold tE; rw [if_neg he]
    have eL : tL s M = [] := by unfold tL; rw [eE, if_neg he]
    rw [eL, eE, eS]
    rw [eV] at K18
    obtain ⟨c, hc⟩ : ∃ c, c = gE s M := ⟨_, rfl⟩
    rw [← hc] at K18 he ⊢
    have hc0 : (c != 0) = true := by simpa using he
    clear h hB hl hm hM he eS eV eE eL hc
    go_enter Tryd.func89, Tryd.ntmps89
    go_wp2_with (go_at_call 92; (with_reducible refine K18.out.mono ?_); rintro e w1 ⟨rfl, hi, hg⟩; have HI := Lib.hid hi; have HG1 := Lib.hid hg; clear hi hg K18; dsimp only)
    go_ret2
    exact ⟨_, rfl, OB.nil _ _, HI.out, HG1.out⟩
open Go.RowKit
set_option linter.unusedVariables false
set_option linter.unusedSimpArgs false
set_option maxRecDepth 100000
/-- The value v is a slice that reads as the bytes L, and lies below block B. -/
def Sl (w : World) (B : Nat) (v : Value) (L : List (BitVec 8)) : Prop :=
  ∃ A cap, v = .slice A L.length cap ∧ Rd w B A L ∧ L.length ≤ cap ∧ cap ≤ 9223372036854775807 ∧ (A = none → cap = 0)
theorem Sl.keep {w w' : World} {B B' : Nat} {v : Value} {L : List (BitVec 8)} (h : Sl w B v L) (hb : Below B' w w') (hB : B ≤ B') : Sl w' B v L := by
  obtain ⟨A, cap, e, hr, r⟩ := h
  exact ⟨A, cap, e, hr.keep' hb hB, r⟩
theorem Sl.up {w : World} {B B' : Nat} {v : Value} {L : List (BitVec 8)} (h : Sl w B v L) (hB : B ≤ B') : Sl w B' v L := by
  obtain ⟨A, cap, e, hr, r⟩ := h
  exact ⟨A, cap, e, hr.up hB, r⟩
theorem Sl.nil (w : World) (B : Nat) : Sl w B (.slice none 0 0) [] := ⟨none, 0, rfl, fun h => by simp at h, Nat.le_refl _, by omega, fun _ => rfl⟩
/-- The value v is a slice of n things of k cells each, below block B; each lies as R says. -/
def Row (w : World) (B : Nat) (v : Value) (n k : Nat) (R : Nat → Nat → Nat → Prop) : Prop :=
  ∃ A cap, v = .slice A n cap ∧ n ≤ cap ∧ cap ≤ 9223372036854775807 ∧ (0 < n → ∃ b o, A = some ⟨b, o, none⟩ ∧ b < B ∧ ∀ j, j < n → R j b (o + j * k))
theorem Row.imp {w w' : World} {B B' : Nat} {v : Value} {n k : Nat} {R R' : Nat → Nat → Nat → Prop} (h : Row w B v n k R) (hB : B ≤ B') (hi : ∀ j b o, j < n → b < B → R j b o → R' j b o) : Row w' B' v n k R' := by
  obtain ⟨A, cap, e, h1, h2, h3⟩ := h
  refine ⟨A, cap, e, h1, h2, fun hp => ?_⟩
  obtain ⟨b, o, eA, hb, hr⟩ := h3 hp
  exact ⟨b, o, eA, Nat.lt_of_lt_of_le hb hB, fun j hj => hi j b _ hj hb (hr j hj)⟩
theorem range_keep {w w' : World} {B b o : Nat} {vs : List Value} (h : w.rangeAt b o vs) (hb : Below B w w') (hlt : b < B) : w'.rangeAt b o vs := fun j v hv => by
  rw [hb.cell (p := ⟨b, o + j, none⟩) hlt]; exact h j v hv
/-- A list of byte strings. -/
def Ws (w : World) (B : Nat) (v : Value) (Ls : List (List (BitVec 8))) : Prop :=
  Row w B v Ls.length 1 fun j b o => ∃ u, w.cell? ⟨b, o, none⟩ = some u ∧ Sl w B u (Ls.getD j [])
theorem Ws.keep {w w' : World} {B B' : Nat} {v : Value} {Ls : List (List (BitVec 8))} (h : Ws w B v Ls) (hb : Below B' w w') (hB : B ≤ B') : Ws w' B v Ls :=
  Row.imp h (Nat.le_refl _) fun j b o _ hlt ⟨u, hc, hs⟩ => ⟨u, by rw [hb.cell (p := ⟨b, o, none⟩) (Nat.lt_of_lt_of_le hlt hB)]; exact hc, hs.keep hb hB⟩
theorem Ws.up {w : World} {B B' : Nat} {v : Value} {Ls : List (List (BitVec 8))} (h : Ws w B v Ls) (hB : B ≤ B') : Ws w B' v Ls :=
  Row.imp h hB fun j b o _ _ ⟨u, hc, hs⟩ => ⟨u, hc, hs.up hB⟩
/-- An input, less what lies elsewhere. -/
structure TIn where
  tx : List (BitVec 8)
  ix : Nat
  sc : List (BitVec 8)
  sq : Nat
  wt : List (List (BitVec 8))
structure TOut where
  vl : Int
  sc : List (BitVec 8)
structure TTx where
  ver : Nat
  ins : List TIn
  outs : List TOut
  lock : Nat
/-- An input's cells. -/
def inV (x : TIn) (s v : Value) : List Value := vbs x.tx ++ [.int .u32 (x.ix : Int), s, .int .u32 (x.sq : Int), v]
def outV (y : TOut) (s : Value) : List Value := [.int .i64 y.vl, s]
/-- What an input's cells lead to. -/
def InOk (w : World) (B : Nat) (x : TIn) (s v : Value) : Prop := Sl w B s x.sc ∧ Ws w B v x.wt ∧ x.tx.length = 32 ∧ x.ix < 4294967296 ∧ x.sq < 4294967296
def OutOk (w : World) (B : Nat) (y : TOut) (s : Value) : Prop := Sl w B s y.sc ∧ -9223372036854775808 ≤ y.vl ∧ y.vl < 9223372036854775808
theorem InOk.keep {w w' : World} {B B' : Nat} {x : TIn} {s v : Value} (h : InOk w B x s v) (hb : Below B' w w') (hB : B ≤ B') : InOk w' B x s v := ⟨h.1.keep hb hB, h.2.1.keep hb hB, h.2.2⟩
theorem InOk.up {w : World} {B B' : Nat} {x : TIn} {s v : Value} (h : InOk w B x s v) (hB : B ≤ B') : InOk w B' x s v := ⟨h.1.up hB, h.2.1.up hB, h.2.2⟩
theorem OutOk.keep {w w' : World} {B B' : Nat} {y : TOut} {s : Value} (h : OutOk w B y s) (hb : Below B' w w') (hB : B ≤ B') : OutOk w' B y s := ⟨h.1.keep hb hB, h.2⟩
theorem OutOk.up {w : World} {B B' : Nat} {y : TOut} {s : Value} (h : OutOk w B y s) (hB : B ≤ B') : OutOk w B' y s := ⟨h.1.up hB, h.2⟩
def In0 : TIn := ⟨[], 0, [], 0, []⟩
def Out0 : TOut := ⟨0, []⟩
/-- A list of inputs, of outputs. -/
def Is (w : World) (B : Nat) (v : Value) (xs : List TIn) : Prop :=
  Row w B v xs.length 36 fun j b o => ∃ s u, w.rangeAt b o (inV (xs.getD j In0) s u) ∧ InOk w B (xs.getD j In0) s u
def Os (w : World) (B : Nat) (v : Value) (ys : List TOut) : Prop :=
  Row w B v ys.length 2 fun j b o => ∃ s, w.rangeAt b o (outV (ys.getD j Out0) s) ∧ OutOk w B (ys.getD j Out0) s
theorem Is.keep {w w' : World} {B B' : Nat} {v : Value} {xs : List TIn} (h : Is w B v xs) (hb : Below B' w w') (hB : B ≤ B') : Is w' B v xs :=
  Row.imp h (Nat.le_refl _) fun j b o _ hlt ⟨s, u, hc, hs⟩ => ⟨s, u, range_keep hc hb (Nat.lt_of_lt_of_le hlt hB), hs.keep hb hB⟩
theorem Is.up {w : World} {B B' : Nat} {v : Value} {xs : List TIn} (h : Is w B v xs) (hB : B ≤ B') : Is w B' v xs :=
  Row.imp h hB fun j b o _ _ ⟨s, u, hc, hs⟩ => ⟨s, u, hc, hs.up hB⟩
theorem Os.keep {w w' : World} {B B' : Nat} {v : Value} {ys : List TOut} (h : Os w B v ys) (hb : Below B' w w') (hB : B ≤ B') : Os w' B v ys :=
  Row.imp h (Nat.le_refl _) fun j b o _ hlt ⟨s, hc, hs⟩ => ⟨s, range_keep hc hb (Nat.lt_of_lt_of_le hlt hB), hs.keep hb hB⟩
theorem Os.up {w : World} {B B' : Nat} {v : Value} {ys : List TOut} (h : Os w B v ys) (hB : B ≤ B') : Os w B' v ys :=
  Row.imp h hB fun j b o _ _ ⟨s, hc, hs⟩ => ⟨s, hc, hs.up hB⟩
/-- A transaction, by value. -/
def txV (t : TTx) (i o : Value) : Value := .agg #[.int .u32 (t.ver : Int), i, o, .int .u32 (t.lock : Int)]
def TxOk (w : World) (B : Nat) (t : TTx) (i o : Value) : Prop := Is w B i t.ins ∧ Os w B o t.outs ∧ t.ver < 4294967296 ∧ t.lock < 4294967296
theorem TxOk.keep {w w' : World} {B B' : Nat} {t : TTx} {i o : Value} (h : TxOk w B t i o) (hb : Below B' w w') (hB : B ≤ B') : TxOk w' B t i o := ⟨h.1.keep hb hB, h.2.1.keep hb hB, h.2.2⟩
theorem TxOk.up {w : World} {B B' : Nat} {t : TTx} {i o : Value} (h : TxOk w B t i o) (hB : B ≤ B') : TxOk w B' t i o := ⟨h.1.up hB, h.2.1.up hB, h.2.2⟩
/-- What a call that tells a bool, and makes memory perhaps, leaves behind. -/
def BoolPost (b : Bool) (w : World) (e : Ending) (w' : World) : Prop := e = .returned (.bool b) ∧ Below w.heap.size w w'
theorem inV_len {x : TIn} {s v : Value} (h : x.tx.length = 32) : (inV x s v).length = 36 := by simp [inV, vbs_len, h]
theorem inV_at {x : TIn} {s v : Value} (h : x.tx.length = 32) : (inV x s v)[32]? = some (.int .u32 (x.ix : Int)) ∧ (inV x s v)[33]? = some s ∧ (inV x s v)[34]? = some (.int .u32 (x.sq : Int)) ∧ (inV x s v)[35]? = some v := by
  have hl : (vbs x.tx).length = 32 := by rw [vbs_len, h]
  unfold inV
  refine ⟨?_, ?_, ?_, ?_⟩ <;> (rw [List.getElem?_append_right (by omega), hl]; rfl)
theorem inV_tx {x : TIn} {s v : Value} {j : Nat} (hj : j < x.tx.length) : (inV x s v)[j]? = some (.int .u8 (Bt (x.tx.getD j 0))) := by
  unfold inV
  rw [List.getElem?_append_left (by rw [vbs_len]; exact hj)]
  exact vbs_at hj
open Go.RowKit
set_option linter.unusedVariables false
set_option linter.unusedSimpArgs false
set_option maxRecDepth 100000
def fitE (n : Nat) : Int := if n = 0 then 4 else if 16 < n then 3 else 0
theorem fits_any (n : Nat) (w : World) : Calls Tryd.prog 30 #[.int .i64 (n : Int), .int .i64 16] w fun e w' => e = .returned (.int .i64 (fitE n)) ∧ w = w' := by
  by_cases h0 : n = 0
  · subst h0
    go_enter Tryd.func30, Tryd.ntmps30
    go_wp2
    go_ret
    exact ⟨rfl, rfl⟩
  · have h1 : ((n : Int) == 0) = false := by simp; omega
    by_cases h2 : 16 < n
    · have e : fitE n = 3 := by unfold fitE; rw [if_neg h0, if_pos h2]
      have h3 : (16 : Int) < (n : Int) := by omega
      rw [e]
      clear e h0 h2
      go_enter Tryd.func30, Tryd.ntmps30
      go_wp2
      go_ret
      exact ⟨rfl, rfl⟩
    · have e : fitE n = 0 := by unfold fitE; rw [if_neg h0, if_neg h2]
      have h3 : ¬ (16 : Int) < (n : Int) := by omega
      rw [e]
      clear e h0 h2
      go_enter Tryd.func30, Tryd.ntmps30
      go_wp2
      go_ret
      exact ⟨rfl, rfl⟩
/-- Is a text longer than scripts and items may be? -/
def lng (L : List (BitVec 8)) : Bool := decide (128 < L.length)
theorem item_any (v : Value) (L : List (BitVec 8)) (B : Nat) (w : World) (h : Sl w B v L) : Calls Tryd.prog 53 #[v] w (BoolPost (lng L) w) := by
  obtain ⟨A, cap, rfl, _⟩ := h
  have hb := Below.refl w.heap.size w
  by_cases h1 : 128 < L.length
  · have e : lng L = true := by unfold lng; simpa using h1
    have h2 : (128 : Int) < (L.length : Int) := by omega
    rw [e]
    clear e h1
    go_enter Tryd.func53, Tryd.ntmps53
    go_wp2
    go_ret
    exact ⟨rfl, hb⟩
  · have e : lng L = false := by unfold lng; simpa using h1
    have h2 : ¬ (128 : Int) < (L.length : Int) := by omega
    rw [e]
    clear e h1
    go_enter Tryd.func53, Tryd.ntmps53
    go_wp2
    go_ret
    exact ⟨rfl, hb⟩
/-- What IndexFunc tells: a place that is there just if b. -/
def IxPost (b : Bool) (w : World) (e : Ending) (w' : World) : Prop := ∃ r : Int, -1 ≤ r ∧ r ≤ 9223372036854775807 ∧ e = .returned (.int .i64 r) ∧ decide (0 ≤ r) = b ∧ Below w.heap.size w w'
theorem any_take_succ {α : Type} (l : List α) (d : α) (f : α → Bool) (i : Nat) (h : i < l.length) : (l.take (i + 1)).any f = ((l.take i).any f || f (l.getD i d)) := by
  rw [List.take_succ_eq_append_getElem h, List.any_append]
  simp [List.getD, h]
theorem any_at {α : Type} (l : List α) (d : α) (f : α → Bool) (i : Nat) (h : i < l.length) (hf : f (l.getD i d) = true) : l.any f = true := by
  have e : l.getD i d = l[i] := by simp [List.getD, h]
  rw [e] at hf
  exact List.any_eq_true.2 ⟨_, List.getElem_mem h, hf⟩
set_option maxHeartbeats 4000000 in
theorem index_items (v : Value) (Ls : List (List (BitVec 8))) (w : World) (h : Ws w w.heap.size v Ls) :
    Calls Tryd.prog 76 #[v, .func (.func 53) #[] #[]] w (IxPost (Ls.any lng) w) := by
  obtain ⟨A, cap, rfl, hl, hm, hr⟩ := h
  have HR := Lib.hid hr
  have hm2 : Ls.length ≤ 9223372036854775807 := by omega
  obtain ⟨n, hn⟩ : ∃ n, n = Ls.length := ⟨_, rfl⟩
  have Hn := Lib.hid hn
  rw [← hn] at hm2 ⊢
  clear hr hn hl hm
  go_enter Tryd.func76, Tryd.ntmps76
  go_wp2_with fail
  go_loopw [8] (fun iv wq => ∃ i : Nat, i ≤ n ∧ iv = .int .i64 (i : Int) ∧ (Ls.take i).any lng = false ∧ Below w.heap.size w wq) (fun iv _ => n - (intOf iv).toNat)
  case atStart => exact ⟨0, Nat.zero_le _, rfl, rfl, Below.refl _ _⟩
  case round =>
    obtain ⟨i, hi, rfl, ha, hb⟩ := hrel
    have HA := Lib.hid ha
    have HB := Lib.hid hb
    clear ha hb
    by_cases hlt : i < n
    · have hlt' : (i : Int) < (n : Int) := by omega
      obtain ⟨b, o, rfl, hbl, hc⟩ := HR.out (by rw [← Hn.out]; omega)
      obtain ⟨u, cu, hs⟩ := hc i (by rw [← Hn.out]; exact hlt)
      rw [Nat.mul_one] at cu
      have c0 : wr.cell? ⟨b, o + i, none⟩ = some u := by rw [HB.out.cell (p := ⟨b, o + i, none⟩) hbl]; exact cu
      have K83 := Lib.hid (item_any u (Ls.getD i []) w.heap.size wr (hs.keep HB.out (Nat.le_refl _)))
      have hst := any_take_succ Ls [] lng i (by rw [← Hn.out]; exact hlt)
      have hat := any_at Ls [] lng i (by rw [← Hn.out]; exact hlt)
      rw [HA.out, Bool.false_or] at hst
      cases hq : lng (Ls.getD i []) with
      | true =>
        have HT := Lib.hid (hat hq)
        rw [hq] at K83
        clear hst hat hq cu hs hc
        go_wp2_with (go_at_call 53; (with_reducible refine K83.out.mono ?_); rintro e w2 ⟨rfl, hb2⟩; dsimp only)
        go_ret
        exact ⟨_, by omega, by omega, rfl, by rw [HT.out]; simp, HB.out.trans (hb2.mono HB.out.size)⟩
      | false =>
        rw [hq] at hst K83
        have HT := Lib.hid hst
        clear hst hat hq cu hs hc
        go_wp2_with (go_at_call 53; (with_reducible refine K83.out.mono ?_); rintro e w2 ⟨rfl, hb2⟩; dsimp only)
        go_roundw
        case rel => exact ⟨i + 1, by omega, by go_num, HT.out, HB.out.trans (hb2.mono HB.out.size)⟩
        case measure => simp [intOf]; omega
    · obtain rfl : i = n := by omega
      have hlt' : ¬ (i : Int) < (i : Int) := by omega
      have e : Ls.any lng = false := by have := HA.out; rwa [List.take_of_length_le (by rw [Hn.out]; exact Nat.le_refl _)] at this
      have HE := Lib.hid e
      clear e
      go_wp2_with fail
      go_ret
      exact ⟨-1, by omega, by omega, rfl, by rw [HE.out]; rfl, HB.out⟩
open Go.RowKit
set_option linter.unusedVariables false
set_option linter.unusedSimpArgs false
set_option maxRecDepth 100000
/-- The error of a count of inputs or outputs that s begins with. -/
def pE (s : Option (List (BitVec 8))) : Int := if gE s 16 = 0 then fitE (gN s) else gE s 16
/-- That count, where it could be read. -/
def pN (s : Option (List (BitVec 8))) : Nat := gV s 16
def CountPost (x : Nat) (c : Int) (s : Option (List (BitVec 8))) (B : Nat) (p : Option Nat) (w : World) (e : Ending) (w' : World) : Prop :=
  e = .returned (.tuple #[.int .i64 x, .int .i64 c]) ∧ IsR w' B p s ∧ w.grownBy w' p
theorem parsedCount_any (p : Option Nat) (s : Option (List (BitVec 8))) (B : Nat) (w : World) (h : IsR w B p s) (hB : B ≤ w.heap.size) :
    Calls Tryd.prog 86 #[ptr p, .int .i64 16] w (CountPost (pN s) (pE s) (gS s) B p w) := by
  have K : Hid (Calls Tryd.prog 92 #[ptr p, .int .u64 16] w (GetPost (gV s 16) (gE s 16) (gS s) B p w)) := get_any p s 16 B w h hB
  obtain ⟨P, hP⟩ : ∃ P, P = ptr p := ⟨_, rfl⟩
  by_cases he : gE s 16 = 0
  · have hN := gE_ne s 16 he
    have eV : gV s 16 = gN s := by unfold gV; rw [if_pos he]
    have eN : pN s = gN s := eV
    have eE : pE s = fitE (gN s) := by unfold pE; rw [if_pos he]
    rw [eN, eE]
    rw [he, eV] at K
    obtain ⟨x, hx⟩ : ∃ x, x = gN s := ⟨_, rfl⟩
    rw [← hx] at K hN ⊢
    obtain ⟨S, hS⟩ : ∃ S, S = gS s := ⟨_, rfl⟩
    rw [← hS] at K ⊢
    have hx1 : (x : Int) ≤ 16 := by omega
    have KF := Lib.hid (fun wq => fits_any x wq)
    rw [← hP] at K ⊢
    clear h hB he hN eV eN eE hx hS hP
    go_enter Tryd.func86, Tryd.ntmps86
    go_wp2_with (first
      | (go_at_call 92; (with_reducible refine K.out.mono ?_); rintro e w1 ⟨rfl, hi, hg⟩; have HI := Lib.hid hi; have HG := Lib.hid hg; clear hi hg K; dsimp only)
      | (go_at_call 30; (with_reducible refine (KF.out _).mono ?_); rintro e w' ⟨rfl, rfl⟩; dsimp only))
    go_ret2
    exact ⟨rfl, HI.out, HG.out⟩
  · have eV : gV s 16 = 0 := by unfold gV; rw [if_neg he]
    have eN : pN s = 0 := eV
    have eE : pE s = gE s 16 := by unfold pE; rw [if_neg he]
    rw [eN, eE]
    rw [eV] at K
    obtain ⟨c, hc⟩ : ∃ c, c = gE s 16 := ⟨_, rfl⟩
    rw [← hc] at K he ⊢
    have hc0 : (c != 0) = true := by simpa using he
    obtain ⟨S, hS⟩ : ∃ S, S = gS s := ⟨_, rfl⟩
    rw [← hS] at K ⊢
    rw [← hP] at K ⊢
    clear h hB he eV eN eE hc hS hP
    go_enter Tryd.func86, Tryd.ntmps86
    go_wp2_with (go_at_call 92; (with_reducible refine K.out.mono ?_); rintro e w1 ⟨rfl, hi, hg⟩; have HI := Lib.hid hi; have HG := Lib.hid hg; clear hi hg K; dsimp only)
    go_ret2
    exact ⟨rfl, HI.out, HG.out⟩
open Go.RowKit
set_option linter.unusedVariables false
section
variable {P : Program} {ops : Array Oper} {Q : Exit → Act → World → Prop} {md : Region.Mode} {S : World → Prop}
theorem AnyBut.firstE {z i : Nat} {oi : Oper} {v : Value} (hi : ops[i]? = some oi) (hsel : ∀ (j : Nat) (o : Oper) cs b, ops[j]? = some o → o.op ≠ .select cs b)
    (hQ : ∀ c a w, Q (.panic c) (a.put oi.dst v) w → Q (.panic c) a w) (hz : ops[z]? = none) :
    ∀ (n : Nat) (listed : Array Bool) (a : Act) (w : World),
      (∀ j oj, ops[j]? = some oj → j ≠ i → listed.getD j true = false → (∀ e ∈ oj.after, Region.binds md e = true → e.on ≠ i) → oi.apart ops oj = true) →
      i ∈ Region.ready md ops listed → YieldsIf P ops S oi v a → S w →
      AnyBut P md ops Q S z n (listed.setIfInBounds i true) (a.put oi.dst v) w → AnyBut P md ops Q S z (n + 1) listed a w
  | 0, listed, a, w, _, hr, hy, hS, H => by
    refine ⟨fun h => (by rw [h] at hr; cases hr), fun j hj => ?_⟩
    by_cases hji : j = i
    · subst hji; exact hy.wpOp hi hS ⟨fun _ => hS, H⟩
    · have hm := ready_mono hj hji
      rw [H.1] at hm
      cases hm
  | n + 1, listed, a, w, hfree, hr, hy, hS, H => by
    refine ⟨fun h => (by rw [h] at hr; cases hr), fun j hj => ?_⟩
    by_cases hji : j = i
    · subst hji; exact hy.wpOp hi hS ⟨fun _ => hS, H⟩
    · obtain ⟨hjun, oj, hoj, hall⟩ := mem_ready.1 hj
      have hjz : j ≠ z := fun e => by subst e; rw [hz] at hoj; cases hoj
      have hno : ∀ e ∈ oj.after, Region.binds md e = true → e.on ≠ i := fun e he hb heq => by
        have hw : waits md ops j i = true := by
          unfold waits
          rw [hoj]
          exact Array.any_eq_true'.2 ⟨e, he, by simp [hb, heq]⟩
        exact not_ready_of_waits hw hr hj
      have h2 := wpOp_putIf hoj (hfree j oj hoj hji hjun hno) (fun cs b => hsel i oi cs b hi) (fun cs b => hsel j oj cs b hoj) hQ hy (H.2 j (ready_mono hj hji))
      refine wpOp_mono (fun a' w' h3 => ⟨h3.2.1, AnyBut.firstE hi hsel hQ hz n (listed.setIfInBounds j true) a' w' (fun k ok hk hki hun hne => hfree k ok hk hki ?_ hne) (ready_mono hr (Ne.symm hji)) h3.1 (h3.2.1 hjz) ?_⟩) h2
      · by_cases hjk : j = k
        · subst hjk; exact hjun
        · rwa [getD_set_ne true hjk] at hun
      · rw [Array.setIfInBounds_comm _ _ hji]
        exact h3.2.2
theorem AnyBut.takeE {z i : Nat} {oi : Oper} {v : Value} {n : Nat} {listed : Array Bool} {a : Act} {w : World} (hi : ops[i]? = some oi)
    (hs : Region.noSelect ops = true) (hf : Region.free md ops listed i = true) (hr : (Region.ready md ops listed).contains i = true) (hz : ops[z]? = none)
    (hQ : ∀ c a w, Q (.panic c) (a.put oi.dst v) w → Q (.panic c) a w) (hy : YieldsIf P ops S oi v a) (hS : S w)
    (h : AnyBut P md ops Q S z n (listed.setIfInBounds i true) (a.put oi.dst v) w) : AnyBut P md ops Q S z (n + 1) listed a w :=
  AnyBut.firstE hi (Region.noSelect_spec hs) hQ hz n listed a w (Region.free_spec hi hf) (by simpa using hr) hy hS h
end
open Go.RowKit
set_option linter.unusedVariables false
section
variable {P : Program} {ops : Array Oper} {Q : Exit → Act → World → Prop} {md : Region.Mode} {S : World → Prop}
/-- Does operation j wait for operation i, at however many steps (at most so many)? -/
def reachB (md : Region.Mode) (ops : Array Oper) (i : Nat) : Nat → Nat → Bool
  | 0, j => waits md ops j i
  | f + 1, j => waits md ops j i || match ops[j]? with
    | some o => o.after.any fun e => Region.binds md e && reachB md ops i f e.on
    | none => false
def Closed (md : Region.Mode) (ops : Array Oper) (listed : Array Bool) : Prop :=
  ∀ j oj, ops[j]? = some oj → listed.getD j false = true → ∀ e ∈ oj.after, Region.binds md e = true → listed.getD e.on false = true
def closedB (md : Region.Mode) (ops : Array Oper) (listed : Array Bool) : Bool :=
  (List.range ops.size).all fun j => match ops[j]? with
    | some o => !(listed.getD j false) || o.after.all fun e => !(Region.binds md e) || listed.getD e.on false
    | none => true
theorem closed_of {listed : Array Bool} (h : closedB md ops listed = true) : Closed md ops listed := by
  intro j oj hj hl e he hb
  have hjs : j < ops.size := (Array.getElem?_eq_some_iff.1 hj).1
  have h1 := List.all_eq_true.1 h j (List.mem_range.2 hjs)
  rw [hj] at h1
  simp only [hl, Bool.not_true, Bool.false_or] at h1
  have h2 := Array.all_eq_true'.1 h1 e he
  simpa [hb] using h2
theorem reach_listed {listed : Array Bool} {i : Nat} (hc : Closed md ops listed) : ∀ f j, reachB md ops i f j = true →
    (∀ oj, ops[j]? = some oj → ∀ e ∈ oj.after, Region.binds md e = true → listed.getD e.on false = true) → listed.getD i false = true := by
  have direct : ∀ j, waits md ops j i = true → (∀ oj, ops[j]? = some oj → ∀ e ∈ oj.after, Region.binds md e = true → listed.getD e.on false = true) → listed.getD i false = true := by
    intro j h ha
    unfold waits at h
    split at h
    · rename_i o ho
      obtain ⟨e, he, hb⟩ := Array.any_eq_true'.1 h
      simp only [Bool.and_eq_true, beq_iff_eq] at hb
      rw [← hb.2]
      exact ha o ho e he hb.1
    · cases h
  intro f
  induction f with
  | zero => intro j h ha; exact direct j h ha
  | succ f ih =>
    intro j h ha
    unfold reachB at h
    rcases Bool.or_eq_true_iff.1 h with h | h
    · exact direct j h ha
    · split at h
      · rename_i o ho
        obtain ⟨e, he, hb⟩ := Array.any_eq_true'.1 h
        simp only [Bool.and_eq_true] at hb
        exact ih e.on hb.2 fun oj hoj e' he' hb' => hc e.on oj hoj (ha o ho e he hb.1) e' he' hb'
      · cases h
theorem closed_set {listed : Array Bool} {j : Nat} (hc : Closed md ops listed) (hj : j ∈ Region.ready md ops listed) : Closed md ops (listed.setIfInBounds j true) := by
  obtain ⟨_, oj, hoj, hall⟩ := mem_ready.1 hj
  have up : ∀ k, listed.getD k false = true → (listed.setIfInBounds j true).getD k false = true := fun k hk => getD_set_true hk
  intro k ok hk hl e he hb
  by_cases h : j = k
  · subst h
    have : ok = oj := Option.some.inj (hk.symm.trans hoj)
    subst this
    exact up _ (hall e he hb)
  · rw [getD_set_ne false h] at hl
    exact up _ (hc k ok hk hl e he hb)
/-- Whatever order is drawn from here on; behind each operation ahead of number z the condition S holds. -/
def AnyTo (P : Program) (md : Region.Mode) (ops : Array Oper) (Q : Exit → Act → World → Prop) (S : World → Prop) (z : Nat) : Nat → Array Bool → Act → World → Prop
  | 0, listed, a, w => Region.ready md ops listed = [] ∧ Q .normal a w
  | n + 1, listed, a, w => (Region.ready md ops listed = [] → Q .normal a w) ∧
      ∀ i ∈ Region.ready md ops listed, wpOp P ops Q i (fun a' w' => (i < z → S w') ∧ AnyTo P md ops Q S z n (listed.setIfInBounds i true) a' w') a w
theorem AnyTo.any {z : Nat} : ∀ (n : Nat) (listed : Array Bool) (a : Act) (w : World), AnyTo P md ops Q S z n listed a w → wpAny P md ops Q n listed a w
  | 0, _, _, _, h => h
  | n + 1, _, _, _, h => ⟨h.1, fun i hi => wpOp_mono (fun a' w' h' => AnyTo.any n _ a' w' h'.2) (h.2 i hi)⟩
theorem AnyTo.first {z i : Nat} {oi : Oper} {v : Value} (hi : ops[i]? = some oi) (hsel : ∀ (j : Nat) (o : Oper) cs b, ops[j]? = some o → o.op ≠ .select cs b)
    (hQ : ∀ c a w, Q (.panic c) (a.put oi.dst v) w → Q (.panic c) a w) (f : Nat) (hsk : ∀ j, z ≤ j → j < ops.size → reachB md ops i f j = true) :
    ∀ (n : Nat) (listed : Array Bool) (a : Act) (w : World),
      (∀ j oj, ops[j]? = some oj → j ≠ i → listed.getD j true = false → (∀ e ∈ oj.after, Region.binds md e = true → e.on ≠ i) → oi.apart ops oj = true) →
      i ∈ Region.ready md ops listed → Closed md ops listed → YieldsIf P ops S oi v a → S w →
      AnyTo P md ops Q S z n (listed.setIfInBounds i true) (a.put oi.dst v) w → AnyTo P md ops Q S z (n + 1) listed a w
  | 0, listed, a, w, _, hr, hcl, hy, hS, H => by
    refine ⟨fun h => (by rw [h] at hr; cases hr), fun j hj => ?_⟩
    by_cases hji : j = i
    · subst hji; exact hy.wpOp hi hS ⟨fun _ => hS, H⟩
    · have hm := ready_mono hj hji
      rw [H.1] at hm
      cases hm
  | n + 1, listed, a, w, hfree, hr, hcl, hy, hS, H => by
    refine ⟨fun h => (by rw [h] at hr; cases hr), fun j hj => ?_⟩
    by_cases hji : j = i
    · subst hji; exact hy.wpOp hi hS ⟨fun _ => hS, H⟩
    · obtain ⟨hjun, oj, hoj, hall⟩ := mem_ready.1 hj
      have hjz : j < z := by
        rcases Nat.lt_or_ge j z with h | h
        · exact h
        · exfalso
          have h1 := reach_listed hcl f j (hsk j h (Array.getElem?_eq_some_iff.1 hoj).1) (fun o ho e he hb => by
            have : o = oj := Option.some.inj (ho.symm.trans hoj)
            subst this
            exact hall e he hb)
          obtain ⟨hiun, _⟩ := mem_ready.1 hr
          rw [getD_both hiun] at h1
          cases h1
      have hno : ∀ e ∈ oj.after, Region.binds md e = true → e.on ≠ i := fun e he hb heq => by
        have hw : waits md ops j i = true := by
          unfold waits
          rw [hoj]
          exact Array.any_eq_true'.2 ⟨e, he, by simp [hb, heq]⟩
        exact not_ready_of_waits hw hr hj
      have h2 := wpOp_putIf hoj (hfree j oj hoj hji hjun hno) (fun cs b => hsel i oi cs b hi) (fun cs b => hsel j oj cs b hoj) hQ hy (H.2 j (ready_mono hj hji))
      refine wpOp_mono (fun a' w' h3 => ⟨h3.2.1, AnyTo.first hi hsel hQ f hsk n (listed.setIfInBounds j true) a' w' (fun k ok hk hki hun hne => hfree k ok hk hki ?_ hne) (ready_mono hr (Ne.symm hji)) (closed_set hcl hj) h3.1 (h3.2.1 hjz) ?_⟩) h2
      · by_cases hjk : j = k
        · subst hjk; exact hjun
        · rwa [getD_set_ne true hjk] at hun
      · rw [Array.setIfInBounds_comm _ _ hji]
        exact h3.2.2
theorem AnyTo.take {z i : Nat} {oi : Oper} {v : Value} {n : Nat} {listed : Array Bool} {a : Act} {w : World} (hi : ops[i]? = some oi)
    (hs : Region.noSelect ops = true) (hf : Region.free md ops listed i = true) (hr : (Region.ready md ops listed).contains i = true) (hcl : closedB md ops listed = true)
    (hsk : ((List.range ops.size).all fun j => decide (j < z) || reachB md ops i ops.size j) = true)
    (hQ : ∀ c a w, Q (.panic c) (a.put oi.dst v) w → Q (.panic c) a w) (hy : YieldsIf P ops S oi v a) (hS : S w)
    (h : AnyTo P md ops Q S z n (listed.setIfInBounds i true) (a.put oi.dst v) w) : AnyTo P md ops Q S z (n + 1) listed a w :=
  AnyTo.first hi (Region.noSelect_spec hs) hQ ops.size (fun j hj hjs => by
    have := List.all_eq_true.1 hsk j (List.mem_range.2 hjs)
    simpa [Nat.not_lt.2 hj] using this) n listed a w (Region.free_spec hi hf) (by simpa using hr) (closed_of hcl) hy hS h
theorem AnyTo.gone {z i : Nat} {o : Oper} {n : Nat} {listed : Array Bool} {a : Act} {w : World} (hr : Region.ready md ops listed = [i]) (ho : ops[i]? = some o) (hw : Region.wanted o (yielded ops a.tmps) = true)
    (h : ∀ K : Act → World → Prop, (∀ a' w', (i < z → S w') → AnyTo P md ops Q S z n (listed.setIfInBounds i true) a' w' → K a' w') → Oper.wp P o a w K Q) : AnyTo P md ops Q S z (n + 1) listed a w := by
  refine ⟨fun e => (by rw [hr] at e; cases e), fun j hj => ?_⟩
  rw [hr] at hj
  obtain rfl : j = i := by simpa using hj
  unfold wpOp
  rw [ho]
  simp only [hw, if_true]
  exact .inl (h _ fun _ _ h1 h2 => ⟨h1, h2⟩)
theorem AnyTo.done {z : Nat} {listed : Array Bool} {a : Act} {w : World} (hr : Region.ready md ops listed = []) (h : Q .normal a w) : ∀ n, AnyTo P md ops Q S z n listed a w
  | 0 => ⟨hr, h⟩
  | _ + 1 => ⟨fun _ => h, by rw [hr]; simp⟩
theorem wp_region_to {id z : Nat} {a : Act} {w : World} (S : World → Prop) (hm : P.follows .mixedOrders = true)
    (h : AnyTo P .any ops Q S z ops.size (Array.replicate ops.size false) a w.drew) : (Code.region id ops true).wp P Q a w :=
  wp_region_any hm (AnyTo.any _ _ _ _ h)
end
open Go.RowKit
set_option linter.unusedVariables false
set_option linter.unusedSimpArgs false
set_option maxRecDepth 100000
/-- A code, behind which J holds where it is no error, and E of that code where it is one. -/
def StepPost (J : World → Prop) (E : Int → World → Prop) (e : Ending) (w' : World) : Prop := ∃ c : Int, e = .returned (.int .i64 c) ∧ (c = 0 → J w') ∧ (c ≠ 0 → E c w')
set_option maxHeartbeats 4000000 in
theorem eachR_in (I : Nat → World → Prop) (E : Int → World → Prop) (A : Option Addr) (n cap b o cb : Nat) (w : World) (hA : 0 < n → A = some ⟨b, o, none⟩) (hn : n ≤ 1000000)
    (hK : ∀ i, i < n → ∀ wq, I i wq → Calls Tryd.prog 87 #[.pointer (some ⟨b, o + i * 36, none⟩), .pointer (some ⟨cb, 0, none⟩)] wq (StepPost (I (i + 1)) E)) (hC : I 0 w) :
    Calls Tryd.prog 69 #[.slice A n cap, .func (.func 87) #[] #[.pointer (some ⟨cb, 0, none⟩)]] w (StepPost (I n) E) := by
  have HK := Lib.hid hK
  have HC := Lib.hid hC
  have HA := Lib.hid hA
  clear hK hC hA
  go_enter Tryd.func69, Tryd.ntmps69
  go_wp2_with fail
  go_loopw [9] (fun iv wq => ∃ (i : Nat), i ≤ n ∧ iv = .int .i64 (i : Int) ∧ I i wq) (fun iv _ => n - (intOf iv).toNat)
  case atStart => exact ⟨0, Nat.zero_le _, rfl, HC.out⟩
  case round =>
    clear HC
    obtain ⟨i, hi, rfl, hC⟩ := hrel
    by_cases hlt : i < n
    · have hlt' : (i : Int) < (n : Int) := by omega
      obtain rfl := HA.out (by omega)
      have K := Lib.hid (HK.out i hlt wr hC)
      clear hC
      go_wp2_with (go_at_call 87; (with_reducible refine K.out.mono ?_); rintro e w2 ⟨c, rfl, h0, h1⟩; have H0 := Lib.hid h0; have H1 := Lib.hid h1; clear h0 h1; dsimp only; by_cases hc : c = 0; have hcb : (c != 0) = false := (by simp [hc]); rotate_left; have hcb : (c != 0) = true := (by simpa using hc); rotate_left)
      · go_roundw
        case rel => exact ⟨i + 1, by omega, by go_num, H0.out hc⟩
        case measure => simp [intOf]; omega
      · go_ret
        exact ⟨c, rfl, fun h => absurd h hc, H1.out⟩
    · obtain rfl : i = n := by omega
      have hlt' : ¬ (i : Int) < (i : Int) := by omega
      have HC := Lib.hid hC
      clear hC
      go_wp2_with fail
      go_ret
      exact ⟨0, rfl, fun _ => HC.out, fun h => absurd rfl h⟩
set_option maxHeartbeats 4000000 in
theorem eachR_wit (I : Nat → World → Prop) (E : Int → World → Prop) (A : Option Addr) (n cap b o cb : Nat) (w : World) (hA : 0 < n → A = some ⟨b, o, none⟩) (hn : n ≤ 1000000)
    (hK : ∀ i, i < n → ∀ wq, I i wq → Calls Tryd.prog 91 #[.pointer (some ⟨b, o + i * 36, none⟩), .pointer (some ⟨cb, 0, none⟩)] wq (StepPost (I (i + 1)) E)) (hC : I 0 w) :
    Calls Tryd.prog 69 #[.slice A n cap, .func (.func 91) #[] #[.pointer (some ⟨cb, 0, none⟩)]] w (StepPost (I n) E) := by
  have HK := Lib.hid hK
  have HC := Lib.hid hC
  have HA := Lib.hid hA
  clear hK hC hA
  go_enter Tryd.func69, Tryd.ntmps69
  go_wp2_with fail
  go_loopw [9] (fun iv wq => ∃ (i : Nat), i ≤ n ∧ iv = .int .i64 (i : Int) ∧ I i wq) (fun iv _ => n - (intOf iv).toNat)
  case atStart => exact ⟨0, Nat.zero_le _, rfl, HC.out⟩
  case round =>
    clear HC
    obtain ⟨i, hi, rfl, hC⟩ := hrel
    by_cases hlt : i < n
    · have hlt' : (i : Int) < (n : Int) := by omega
      obtain rfl := HA.out (by omega)
      have K := Lib.hid (HK.out i hlt wr hC)
      clear hC
      go_wp2_with (go_at_call 91; (with_reducible refine K.out.mono ?_); rintro e w2 ⟨c, rfl, h0, h1⟩; have H0 := Lib.hid h0; have H1 := Lib.hid h1; clear h0 h1; dsimp only; by_cases hc : c = 0; have hcb : (c != 0) = false := (by simp [hc]); rotate_left; have hcb : (c != 0) = true := (by simpa using hc); rotate_left)
      · go_roundw
        case rel => exact ⟨i + 1, by omega, by go_num, H0.out hc⟩
        case measure => simp [intOf]; omega
      · go_ret
        exact ⟨c, rfl, fun h => absurd h hc, H1.out⟩
    · obtain rfl : i = n := by omega
      have hlt' : ¬ (i : Int) < (i : Int) := by omega
      have HC := Lib.hid hC
      clear hC
      go_wp2_with fail
      go_ret
      exact ⟨0, rfl, fun _ => HC.out, fun h => absurd rfl h⟩
set_option maxHeartbeats 4000000 in
theorem eachR_out (I : Nat → World → Prop) (E : Int → World → Prop) (A : Option Addr) (n cap b o cb : Nat) (w : World) (hA : 0 < n → A = some ⟨b, o, none⟩) (hn : n ≤ 1000000)
    (hK : ∀ i, i < n → ∀ wq, I i wq → Calls Tryd.prog 90 #[.pointer (some ⟨b, o + i * 2, none⟩), .pointer (some ⟨cb, 0, none⟩)] wq (StepPost (I (i + 1)) E)) (hC : I 0 w) :
    Calls Tryd.prog 72 #[.slice A n cap, .func (.func 90) #[] #[.pointer (some ⟨cb, 0, none⟩)]] w (StepPost (I n) E) := by
  have HK := Lib.hid hK
  have HC := Lib.hid hC
  have HA := Lib.hid hA
  clear hK hC hA
  go_enter Tryd.func72, Tryd.ntmps72
  go_wp2_with fail
  go_loopw [9] (fun iv wq => ∃ (i : Nat), i ≤ n ∧ iv = .int .i64 (i : Int) ∧ I i wq) (fun iv _ => n - (intOf iv).toNat)
  case atStart => exact ⟨0, Nat.zero_le _, rfl, HC.out⟩
  case round =>
    clear HC
    obtain ⟨i, hi, rfl, hC⟩ := hrel
    by_cases hlt : i < n
    · have hlt' : (i : Int) < (n : Int) := by omega
      obtain rfl := HA.out (by omega)
      have K := Lib.hid (HK.out i hlt wr hC)
      clear hC
      go_wp2_with (go_at_call 90; (with_reducible refine K.out.mono ?_); rintro e w2 ⟨c, rfl, h0, h1⟩; have H0 := Lib.hid h0; have H1 := Lib.hid h1; clear h0 h1; dsimp only; by_cases hc : c = 0; have hcb : (c != 0) = false := (by simp [hc]); rotate_left; have hcb : (c != 0) = true := (by simpa using hc); rotate_left)
      · go_roundw
        case rel => exact ⟨i + 1, by omega, by go_num, H0.out hc⟩
        case measure => simp [intOf]; omega
      · go_ret
        exact ⟨c, rfl, fun h => absurd h hc, H1.out⟩
    · obtain rfl : i = n := by omega
      have hlt' : ¬ (i : Int) < (i : Int) := by omega
      have HC := Lib.hid hC
      clear hC
      go_wp2_with fail
      go_ret
      exact ⟨0, rfl, fun _ => HC.out, fun h => absurd rfl h⟩
set_option maxHeartbeats 4000000 in
theorem eachR_item (I : Nat → World → Prop) (E : Int → World → Prop) (A : Option Addr) (n cap b o cb : Nat) (w : World) (hA : 0 < n → A = some ⟨b, o, none⟩) (hn : n ≤ 1000000)
    (hK : ∀ i, i < n → ∀ wq, I i wq → Calls Tryd.prog 94 #[.pointer (some ⟨b, o + i, none⟩), .pointer (some ⟨cb, 0, none⟩)] wq (StepPost (I (i + 1)) E)) (hC : I 0 w) :
    Calls Tryd.prog 93 #[.slice A n cap, .func (.func 94) #[] #[.pointer (some ⟨cb, 0, none⟩)]] w (StepPost (I n) E) := by
  have HK := Lib.hid hK
  have HC := Lib.hid hC
  have HA := Lib.hid hA
  clear hK hC hA
  go_enter Tryd.func93, Tryd.ntmps93
  go_wp2_with fail
  go_loopw [9] (fun iv wq => ∃ (i : Nat), i ≤ n ∧ iv = .int .i64 (i : Int) ∧ I i wq) (fun iv _ => n - (intOf iv).toNat)
  case atStart => exact ⟨0, Nat.zero_le _, rfl, HC.out⟩
  case round =>
    clear HC
    obtain ⟨i, hi, rfl, hC⟩ := hrel
    by_cases hlt : i < n
    · have hlt' : (i : Int) < (n : Int) := by omega
      obtain rfl := HA.out (by omega)
      have K := Lib.hid (HK.out i hlt wr hC)
      clear hC
      go_wp2_with (go_at_call 94; (with_reducible refine K.out.mono ?_); rintro e w2 ⟨c, rfl, h0, h1⟩; have H0 := Lib.hid h0; have H1 := Lib.hid h1; clear h0 h1; dsimp only; by_cases hc : c = 0; have hcb : (c != 0) = false := (by simp [hc]); rotate_left; have hcb : (c != 0) = true := (by simpa using hc); rotate_left)
      · go_roundw
        case rel => exact ⟨i + 1, by omega, by go_num, H0.out hc⟩
        case measure => simp [intOf]; omega
      · go_ret
        exact ⟨c, rfl, fun h => absurd h hc, H1.out⟩
    · obtain rfl : i = n := by omega
      have hlt' : ¬ (i : Int) < (i : Int) := by omega
      have HC := Lib.hid hC
      clear hC
      go_wp2_with fail
      go_ret
      exact ⟨0, rfl, fun _ => HC.out, fun h => absurd rfl h⟩
open Go.RowKit
set_option linter.unusedVariables false
set_option linter.unusedSimpArgs false
set_option maxRecDepth 100000
set_option maxHeartbeats 4000000 in
theorem bput_any (A : Option Addr) (L : List (BitVec 8)) (cap B : Nat) (k : Int) (n : Nat) (w : World) (hR : Rd w B A L) (hB : B ≤ w.heap.size) (hn : n < 18446744073709551616) (hl : L.length ≤ 100000000) :
    Calls Tryd.prog 96 #[.slice A L.length cap, .int .i64 k, .int .u64 n] w (PutPost L k n w) := by
  have HW := Lib.hid (isWidth_any k w)
  by_cases hw : isW k = true
  · rw [hw] at HW
    have hk := isW_pos hw
    obtain ⟨m, rfl⟩ : ∃ m : Nat, k = m := ⟨k.toNat, by omega⟩
    have hmin : min (8 * m) 64 = 8 * m := by omega
    by_cases hlt : n < 2 ^ (8 * m)
    · have h0 : ((n : Int) / 2 ^ (8 * m) != 0) = false := by
        have : n / 2 ^ (8 * m) = 0 := Nat.div_eq_of_lt hlt
        have e : ((n : Int) / 2 ^ (8 * m)) = ((n / 2 ^ (8 * m) : Nat) : Int) := by simp
        rw [e, this]; rfl
      obtain ⟨cur, hcl, hmk⟩ := run_make22 L.length m (by omega) w
      have hm1 : 1 ≤ m := by omega
      have hm8 : m ≤ 8 := by omega
      have HR := Lib.hid hR
      have HBB := Lib.hid hB
      have HL := Lib.hid hl
      have HCl := Lib.hid hcl
      have HY := Lib.hid (show isW (m : Int) = true ∧ n < 2 ^ (8 * (m : Int).toNat) from ⟨hw, hlt⟩)
      clear hlt hR hcl hn hB hw hk
      go_enter Tryd.func96, Tryd.ntmps96
      go_upto_region 4 with (go_at_call 82; (with_reducible refine HW.out.mono ?_); rintro e w' ⟨rfl, rfl⟩; dsimp only)
      generalize hW1 : w.alloc (.cells cur.toArray 5) = W1
      have hB1 : Blk W1 w.heap.size 5 cur := by rw [← hW1]; exact Blk.new w 5 cur.toArray
      have hb1 : Below w.heap.size w W1 := by rw [← hW1]; exact (Below.refl _ _).alloc (Nat.le_refl _) _
      have HB1 := Lib.hid hB1
      have Hb1 := Lib.hid hb1
      have c1 : Hid ((vbs L).length = Nat.min L.length L.length) := show (vbs L).length = min L.length L.length by rw [vbs_len]; omega
      have c2 : Hid (0 < (vbs L).length → (some (⟨w.heap.size, 0, none⟩ : Addr)) = some ⟨w.heap.size, 0, none⟩ ∧ ∃ ad : Addr, A = some ad ∧ ∀ j v, (vbs L)[j]? = some v → W1.cell? (ad.add j) = some v) := fun hp => by
        rw [vbs_len] at hp
        obtain ⟨b, o, e, hlt, hc⟩ := HR.out hp
        refine ⟨rfl, ⟨b, o, none⟩, e, fun j v hv => ?_⟩
        have hj : j < L.length := by have := (List.getElem?_eq_some_iff.1 hv).1; rwa [vbs_len] at this
        rw [vbs_at hj] at hv
        rw [Addr.add_mid, Hb1.out.cell (p := ⟨b, o + j, none⟩) (by have := HBB.out; show b < _; omega), hc j hj]; exact hv
      have c3 : Hid (0 + (vbs L).length ≤ cur.length) := show 0 + (vbs L).length ≤ cur.length by rw [vbs_len, HCl.out]; omega
      clear hW1 hB1 hb1 hmk
      go_upto_region 5 with (refine wpList_copy_splice (o := ⟨some 29, _, _, _, _, _⟩) rfl (.tmp 27) (.tmp 28) 27 27 rfl 5 Tryd.underlying27 (by kernel_rfl) (some ⟨w.heap.size, 0, none⟩) A L.length (L.length + m) L.length cap rfl rfl w.heap.size 0 cur 5 HB1.out (vbs L) c1.out c2.out c3.out (vbs_one L) w.heap.size w Hb1.out (Nat.le_refl _) ?_; intro w2 hB2 hb2)
      have hO : OB w2 w.heap.size (.slice (some ⟨w.heap.size, 0, none⟩) L.length (L.length + m)) L := ob_of_splice HCl.out (by unfold maxLen; omega) hB2
      have HO := Lib.hid hO
      have Hb2 := Lib.hid hb2
      clear hO hb2 hB2 HB1 Hb1 c1 c2 c3 HR HCl
      go_wp2_with fail
      go_loopw [8, 31] (fun v i wq => ∃ j : Nat, j ≤ m ∧ i = .int .i64 j ∧ OB wq w.heap.size v (L ++ les n j) ∧ Below w.heap.size w wq) (fun _ i _ => m - (intOf i).toNat)
      case atStart => exact ⟨0, Nat.zero_le _, rfl, by simpa [les] using HO.out, Hb2.out⟩
      case round =>
        obtain ⟨j, hj, rfl, ho, hb⟩ := hrel
        by_cases hlt : j < m
        · have h0 : (0 : Int) ≤ (j : Int) := by omega
          have hmin2 : min (8 * j) 64 = 8 * j := by omega
          have hbv := byte_val n j
          obtain ⟨x, hx⟩ : ∃ x, x = BitVec.ofNat 8 (n / 2 ^ (8 * j)) := ⟨_, rfl⟩
          rw [← hx] at hbv
          have Hx := Lib.hid hx
          have HOo := Lib.hid (ho.alloc (.cells #[.int .u8 (Bt x)] 5))
          have hs := Lib.hid (src_one wr x)
          have HBo := Lib.hid (hb.alloc hb.size (.cells #[.int .u8 (Bt x)] 5))
          have HSz : Hid (w.heap.size ≤ (wr.alloc (.cells #[.int .u8 (Bt x)] 5)).heap.size) := HBo.out.size
          have HLe : Hid ((L ++ les n j).length + [x].length ≤ 140737488355328) := show (L ++ les n j).length + [x].length ≤ 140737488355328 by rw [List.length_append, les_len]; simp; omega
          clear ho hb hx
          go_wp2_with (refine wpList_push (o := ⟨some 41, _, _, _, _, _⟩) rfl (.tmp 34) (.tmp 40) rfl rfl w.heap.size _ _ [x] rfl HOo.out (some ⟨wr.heap.size, 0, none⟩) 1 1 rfl (one_len _) hs.out (fun h => by cases h) HLe.out HBo.out HSz.out (Nat.le_refl _) ?_; intro v' w' h1 h2 h3)
          go_roundw
          case rel => exact ⟨j + 1, by omega, by go_num, by rw [les_succ, ← Hx.out, ← List.append_assoc]; exact h1, h2⟩
          case measure => simp [intOf]; omega
        · obtain rfl : j = m := by omega
          have HOo := Lib.hid ho
          have HBo := Lib.hid hb
          clear ho hb
          go_wp2
          go_ret2
          exact ⟨HBo.out, fun _ => ⟨_, rfl, HOo.out⟩, fun h => absurd HY.out h⟩
    · have h0 : ((n : Int) / 2 ^ (8 * m) != 0) = true := by
        have e : ((n : Int) / 2 ^ (8 * m)) = ((n / 2 ^ (8 * m) : Nat) : Int) := by simp
        have h1 : 0 < n / 2 ^ (8 * m) := Nat.div_pos (by omega) (Nat.two_pow_pos _)
        rw [e]
        simp
        omega
      have hm1 : 1 ≤ m := by omega
      have hm8 : m ≤ 8 := by omega
      have HN : Hid (¬ (isW (m : Int) = true ∧ n < 2 ^ (8 * (m : Int).toNat))) := fun h => hlt h.2
      clear hlt hR hn hB hw hk hl
      go_enter Tryd.func96, Tryd.ntmps96
      go_wp2_with (go_at_call 82; (with_reducible refine HW.out.mono ?_); rintro e w' ⟨rfl, rfl⟩; dsimp only)
      go_ret2
      exact ⟨Below.refl _ _, fun h => absurd h HN.out, fun _ => rfl⟩
  · rw [show isW k = false by simpa using hw] at HW
    have HN := Lib.hid hw
    clear hR hl hn hB hw
    go_enter Tryd.func96, Tryd.ntmps96
    go_wp2_with (go_at_call 82; (with_reducible refine HW.out.mono ?_); rintro e w' ⟨rfl, rfl⟩; dsimp only)
    go_ret2
    exact ⟨Below.refl _ _, fun h => absurd h.1 HN.out, fun _ => rfl⟩
theorem number_any (k n : Nat) (w : World) (hk : isW k = true) (hn : n < 2 ^ (8 * k)) (hn64 : n < 18446744073709551616) : Calls Tryd.prog 67 #[.int .i64 (k : Int), .int .u64 (n : Int)] w (LaidPost (les n k) w) := by
  have h := bput_any none [] 0 0 k n w (fun h => by simp at h) (Nat.zero_le _) hn64 (by simp)
  have hy : isW (k : Int) = true ∧ n < 2 ^ (8 * (k : Int).toNat) := ⟨hk, hn⟩
  have K := Lib.hid h
  have HY := Lib.hid hy
  clear h hy hk hn
  go_enter Tryd.func67, Tryd.ntmps67
  go_wp2_with (go_at_call 96; (refine K.out.mono ?_); rintro e w2 ⟨hb, h1, h2⟩; obtain ⟨v, rfl, ho⟩ := h1 HY.out; have HO := Lib.hid ho; clear h1 h2 ho; dsimp only)
  go_ret
  exact ⟨_, rfl, by simpa using HO.out, hb⟩
theorem count_any (n : Nat) (w : World) (hn : n < 9223372036854775808) : Calls Tryd.prog 68 #[.int .i64 (n : Int)] w (LaidPost (form n) w) := by
  have h := put_any none [] 0 0 n w (fun h => by simp at h) (Nat.zero_le _) (by simp)
  rw [List.nil_append] at h
  have K := Lib.hid h
  have hw : IntKind.u64.wrap (n : Int) = (n : Int) := by rw [IntKind.wrap_u64]; omega
  clear h
  go_enter Tryd.func68, Tryd.ntmps68
  go_wp2_with (go_at_call 97; (refine K.out.mono ?_); rintro e w2 ⟨v, rfl, ho, hb⟩; have HO := Lib.hid ho; clear ho; dsimp only)
  go_ret
  exact ⟨_, rfl, HO.out, hb⟩
open Go.RowKit
set_option linter.unusedVariables false
set_option linter.unusedSimpArgs false
set_option maxRecDepth 100000
theorem contains84 (v f : Value) (b : Bool) (w : World) (h : Calls Tryd.prog 76 #[v, f] w (IxPost b w)) : Calls Tryd.prog 54 #[v, f] w (BoolPost b w) := by
  have K := Lib.hid h
  clear h
  go_enter Tryd.func54, Tryd.ntmps54
  go_wp2_with (go_at_call 76; (with_reducible refine K.out.mono ?_); rintro e w2 ⟨r, h1, h2, rfl, hb, hbl⟩; have HB := Lib.hid hb; clear hb; dsimp only)
  go_ret
  exact ⟨by rw [← HB.out]; rfl, hbl⟩
theorem contains50 (v f : Value) (b : Bool) (w : World) (h : Calls Tryd.prog 52 #[v, f] w (IxPost b w)) : Calls Tryd.prog 31 #[v, f] w (BoolPost b w) := by
  have K := Lib.hid h
  clear h
  go_enter Tryd.func31, Tryd.ntmps31
  go_wp2_with (go_at_call 52; (with_reducible refine K.out.mono ?_); rintro e w2 ⟨r, h1, h2, rfl, hb, hbl⟩; have HB := Lib.hid hb; clear hb; dsimp only)
  go_ret
  exact ⟨by rw [← HB.out]; rfl, hbl⟩
theorem contains71 (v f : Value) (b : Bool) (w : World) (h : Calls Tryd.prog 55 #[v, f] w (IxPost b w)) : Calls Tryd.prog 33 #[v, f] w (BoolPost b w) := by
  have K := Lib.hid h
  clear h
  go_enter Tryd.func33, Tryd.ntmps33
  go_wp2_with (go_at_call 55; (with_reducible refine K.out.mono ?_); rintro e w2 ⟨r, h1, h2, rfl, hb, hbl⟩; have HB := Lib.hid hb; clear hb; dsimp only)
  go_ret
  exact ⟨by rw [← HB.out]; rfl, hbl⟩
/-- Is an input's script or its witness too long? -/
def lngIn (x : TIn) : Bool := lng x.sc || decide (8 < x.wt.length) || x.wt.any lng
def lngOut (y : TOut) : Bool := lng y.sc
def wit (x : TIn) : Bool := decide (0 < x.wt.length)
theorem longIn_a (x : TIn) (C : Array Value) (A1 A2 : Option Addr) (n1 c1 n2 c2 : Nat) (b : Bool) (w : World) (h33 : C[33]? = some (.slice A1 n1 c1)) (h35 : C[35]? = some (.slice A2 n2 c2)) (h1 : (128 : Int) < (n1 : Int)) :
    Calls Tryd.prog 32 #[.agg C] w (BoolPost true w) := by
  have d33 : (w.alloc (.cells C 57)).cell? ⟨w.heap.size, 33, none⟩ = some (.slice A1 n1 c1) := cell_new rfl h33
  have d35 : (w.alloc (.cells C 57)).cell? ⟨w.heap.size, 35, none⟩ = some (.slice A2 n2 c2) := cell_new rfl h35
  have hb := (Below.refl w.heap.size w).alloc (Nat.le_refl _) (.cells C 57)
  have HB := Lib.hid hb
  clear h33 h35 hb
  go_enter Tryd.func32, Tryd.ntmps32
  go_wp2_with (fail)
  go_ret
  exact ⟨rfl, HB.out⟩
theorem longIn_b (x : TIn) (C : Array Value) (A1 A2 : Option Addr) (n1 c1 n2 c2 : Nat) (b : Bool) (w : World) (h33 : C[33]? = some (.slice A1 n1 c1)) (h35 : C[35]? = some (.slice A2 n2 c2)) (h1 : ¬ (128 : Int) < (n1 : Int)) (h2 : (8 : Int) < (n2 : Int)) :
    Calls Tryd.prog 32 #[.agg C] w (BoolPost true w) := by
  have d33 : (w.alloc (.cells C 57)).cell? ⟨w.heap.size, 33, none⟩ = some (.slice A1 n1 c1) := cell_new rfl h33
  have d35 : (w.alloc (.cells C 57)).cell? ⟨w.heap.size, 35, none⟩ = some (.slice A2 n2 c2) := cell_new rfl h35
  have hb := (Below.refl w.heap.size w).alloc (Nat.le_refl _) (.cells C 57)
  have HB := Lib.hid hb
  clear h33 h35 hb
  go_enter Tryd.func32, Tryd.ntmps32
  go_wp2_with (fail)
  go_ret
  exact ⟨rfl, HB.out⟩
theorem longIn_c (x : TIn) (C : Array Value) (A1 A2 : Option Addr) (n1 c1 n2 c2 : Nat) (b : Bool) (w : World) (h33 : C[33]? = some (.slice A1 n1 c1)) (h35 : C[35]? = some (.slice A2 n2 c2)) (h1 : ¬ (128 : Int) < (n1 : Int)) (h2 : ¬ (8 : Int) < (n2 : Int)) (h3 : ∀ wq, Below w.heap.size w wq → Calls Tryd.prog 54 #[.slice A2 n2 c2, .func (.func 53) #[] #[]] wq (BoolPost b wq)) :
    Calls Tryd.prog 32 #[.agg C] w (BoolPost b w) := by
  have d33 : (w.alloc (.cells C 57)).cell? ⟨w.heap.size, 33, none⟩ = some (.slice A1 n1 c1) := cell_new rfl h33
  have d35 : (w.alloc (.cells C 57)).cell? ⟨w.heap.size, 35, none⟩ = some (.slice A2 n2 c2) := cell_new rfl h35
  have hb := (Below.refl w.heap.size w).alloc (Nat.le_refl _) (.cells C 57)
  have HB := Lib.hid hb
  clear h33 h35 hb
  have K84 := Lib.hid (h3 _ HB.out)
  clear h3
  go_enter Tryd.func32, Tryd.ntmps32
  go_wp2_with (go_at_call 54; (with_reducible refine K84.out.mono ?_); rintro e w2 ⟨rfl, hb2⟩; dsimp only)
  go_ret
  exact ⟨rfl, HB.out.trans (hb2.mono HB.out.size)⟩
theorem longIn_any (x : TIn) (s u : Value) (w : World) (h : InOk w w.heap.size x s u) : Calls Tryd.prog 32 #[.agg (inV x s u).toArray] w (BoolPost (lngIn x) w) := by
  obtain ⟨hs, hu, h32, _, _⟩ := h
  obtain ⟨e32, e33, e34, e35⟩ := inV_at (x := x) (s := s) (v := u) h32
  have hu' := hu
  obtain ⟨A1, c1, rfl, _⟩ := hs
  obtain ⟨A2, c2, rfl, _⟩ := hu
  have g33 : (inV x (.slice A1 x.sc.length c1) (.slice A2 x.wt.length c2)).toArray[33]? = some (.slice A1 x.sc.length c1) := by simpa using e33
  have g35 : (inV x (.slice A1 x.sc.length c1) (.slice A2 x.wt.length c2)).toArray[35]? = some (.slice A2 x.wt.length c2) := by simpa using e35
  by_cases h1 : 128 < x.sc.length
  · have e : lngIn x = true := by unfold lngIn lng; simp [h1]
    rw [e]
    exact longIn_a x _ _ _ _ _ _ _ true w g33 g35 (by omega)
  · by_cases h2 : 8 < x.wt.length
    · have e : lngIn x = true := by unfold lngIn lng; simp [h2]
      rw [e]
      exact longIn_b x _ _ _ _ _ _ _ true w g33 g35 (by omega) (by omega)
    · have e : lngIn x = x.wt.any lng := by unfold lngIn lng; simp [h1, h2]
      rw [e]
      exact longIn_c x _ _ _ _ _ _ _ _ w g33 g35 (by omega) (by omega) fun wq hq => contains84 _ _ _ wq (index_items _ x.wt wq ((hu'.keep hq (Nat.le_refl _)).up hq.size))
theorem longOut_at (C : Array Value) (A1 : Option Addr) (n1 c1 : Nat) (b : Bool) (w : World) (h1 : C[1]? = some (.slice A1 n1 c1)) (hb : decide ((128 : Int) < (n1 : Int)) = b) :
    Calls Tryd.prog 34 #[.agg C] w (BoolPost b w) := by
  have d1 : (w.alloc (.cells C 43)).cell? ⟨w.heap.size, 1, none⟩ = some (.slice A1 n1 c1) := cell_new rfl h1
  have HB := Lib.hid ((Below.refl w.heap.size w).alloc (Nat.le_refl _) (.cells C 43))
  clear h1
  cases b with
  | true =>
    have h2 : (128 : Int) < (n1 : Int) := by simpa using hb
    clear hb
    go_enter Tryd.func34, Tryd.ntmps34
    go_wp2_with fail
    go_ret
    exact ⟨rfl, HB.out⟩
  | false =>
    have h2 : ¬ (128 : Int) < (n1 : Int) := by simpa using hb
    clear hb
    go_enter Tryd.func34, Tryd.ntmps34
    go_wp2_with fail
    go_ret
    exact ⟨rfl, HB.out⟩
theorem longOut_any (y : TOut) (s : Value) (w : World) (h : OutOk w w.heap.size y s) : Calls Tryd.prog 34 #[.agg (outV y s).toArray] w (BoolPost (lngOut y) w) := by
  obtain ⟨hs, _, _⟩ := h
  obtain ⟨A1, c1, rfl, _⟩ := hs
  exact longOut_at _ A1 y.sc.length c1 _ w rfl (by unfold lngOut lng; exact decide_eq_decide.2 (by omega))
theorem wit_at (C : Array Value) (A1 : Option Addr) (n1 c1 : Nat) (b : Bool) (w : World) (h1 : C[35]? = some (.slice A1 n1 c1)) (hb : decide ((0 : Int) < (n1 : Int)) = b) :
    Calls Tryd.prog 36 #[.agg C] w (BoolPost b w) := by
  have d1 : (w.alloc (.cells C 57)).cell? ⟨w.heap.size, 35, none⟩ = some (.slice A1 n1 c1) := cell_new rfl h1
  have HB := Lib.hid ((Below.refl w.heap.size w).alloc (Nat.le_refl _) (.cells C 57))
  clear h1
  cases b with
  | true =>
    have h2 : 0 < n1 := by simp at hb; omega
    clear hb
    go_enter Tryd.func36, Tryd.ntmps36
    go_wp2_with fail
    go_ret
    exact ⟨rfl, HB.out⟩
  | false =>
    have h2 : n1 = 0 := by simp at hb; omega
    subst h2
    clear hb
    go_enter Tryd.func36, Tryd.ntmps36
    go_wp2_with fail
    go_ret
    exact ⟨rfl, HB.out⟩
theorem wit_any (x : TIn) (s u : Value) (w : World) (h : InOk w w.heap.size x s u) : Calls Tryd.prog 36 #[.agg (inV x s u).toArray] w (BoolPost (wit x) w) := by
  obtain ⟨hs, hu, h32, _, _⟩ := h
  obtain ⟨e32, e33, e34, e35⟩ := inV_at (x := x) (s := s) (v := u) h32
  obtain ⟨A2, c2, rfl, _⟩ := hu
  exact wit_at _ A2 x.wt.length c2 _ w (by simpa using e35) (by unfold wit; exact decide_eq_decide.2 (by omega))
open Go.RowKit
set_option linter.unusedVariables false
set_option linter.unusedSimpArgs false
set_option maxRecDepth 100000
theorem load_in {x : TIn} {s u : Value} (wq : World) (b o : Nat) (h : wq.rangeAt b o (inV x s u)) (h32 : x.tx.length = 32) :
    (Instr.loadAt 57 (.pointer (some ⟨b, o, none⟩))).run Tryd.prog wq = .ok (.agg (inV x s u).toArray) wq :=
  run_loadAt_mid wq b o 57 _ _ h Tryd.underlying57 rfl (by rw [inV_len h32]; kernel_rfl)
theorem load_out {y : TOut} {s : Value} (wq : World) (b o : Nat) (h : wq.rangeAt b o (outV y s)) :
    (Instr.loadAt 43 (.pointer (some ⟨b, o, none⟩))).run Tryd.prog wq = .ok (.agg (outV y s).toArray) wq :=
  run_loadAt_mid wq b o 43 _ _ h Tryd.underlying43 rfl (by show _ = some 2; kernel_rfl)
set_option maxHeartbeats 4000000 in
theorem index_long (v : Value) (xs : List TIn) (w : World) (h : Is w w.heap.size v xs) :
    Calls Tryd.prog 52 #[v, .func (.func 32) #[] #[]] w (IxPost (xs.any lngIn) w) := by
  obtain ⟨A, cap, rfl, hl, hm, hr⟩ := h
  have HR := Lib.hid hr
  have hm2 : xs.length ≤ 9223372036854775807 := by omega
  obtain ⟨n, hn⟩ : ∃ n, n = xs.length := ⟨_, rfl⟩
  have Hn := Lib.hid hn
  rw [← hn] at hm2 ⊢
  clear hr hn hl hm
  go_enter Tryd.func52, Tryd.ntmps52
  go_wp2_with fail
  go_loopw [8] (fun iv wq => ∃ i : Nat, i ≤ n ∧ iv = .int .i64 (i : Int) ∧ (xs.take i).any lngIn = false ∧ Below w.heap.size w wq) (fun iv _ => n - (intOf iv).toNat)
  case atStart => exact ⟨0, Nat.zero_le _, rfl, rfl, Below.refl _ _⟩
  case round =>
    obtain ⟨i, hi, rfl, ha, hb⟩ := hrel
    have HA := Lib.hid ha
    have HB := Lib.hid hb
    clear ha hb
    by_cases hlt : i < n
    · have hlt' : (i : Int) < (n : Int) := by omega
      obtain ⟨b, o, rfl, hbl, hc⟩ := HR.out (by rw [← Hn.out]; omega)
      obtain ⟨s, u, cu, hs⟩ := hc i (by rw [← Hn.out]; exact hlt)
      have cr := range_keep cu HB.out hbl
      have hok := (hs.keep HB.out (Nat.le_refl _)).up HB.out.size
      have K := Lib.hid (longIn_any _ s u wr hok)
      have HI : Hid ((Tryd.prog.info? 57).map (·.size) = some (inV (xs.getD i In0) s u).length) := show (Tryd.prog.info? 57).map (·.size) = some (inV (xs.getD i In0) s u).length by rw [show (inV (xs.getD i In0) s u).length = 36 from inV_len hs.2.2.1]; kernel_rfl
      have hst := any_take_succ xs In0 lngIn i (by rw [← Hn.out]; exact hlt)
      have hat := any_at xs In0 lngIn i (by rw [← Hn.out]; exact hlt)
      rw [HA.out, Bool.false_or] at hst
      obtain ⟨C, hC⟩ : ∃ C, C = inV (xs.getD i In0) s u := ⟨_, rfl⟩
      rw [← hC] at K cr HI
      have HRg := Lib.hid cr
      cases hq : lngIn (xs.getD i In0) with
      | true =>
        have HT := Lib.hid (hat hq)
        rw [hq] at K
        clear hst hat hq cu hs hc cr hok hC
        go_wp2_with (first | (go_at_call 32; (with_reducible refine K.out.mono ?_); rintro e w2 ⟨rfl, hb2⟩; dsimp only) | (with_reducible refine wpList_load_mid rfl 57 (.tmp 14) rfl b (o + i * 36) rfl C _ HRg.out Tryd.underlying57 rfl HI.out ?_))
        go_ret
        exact ⟨_, by omega, by omega, rfl, by rw [HT.out]; simp, HB.out.trans (hb2.mono HB.out.size)⟩
      | false =>
        rw [hq] at hst K
        have HT := Lib.hid hst
        clear hst hat hq cu hs hc cr hok hC
        go_wp2_with (first | (go_at_call 32; (with_reducible refine K.out.mono ?_); rintro e w2 ⟨rfl, hb2⟩; dsimp only) | (with_reducible refine wpList_load_mid rfl 57 (.tmp 14) rfl b (o + i * 36) rfl C _ HRg.out Tryd.underlying57 rfl HI.out ?_))
        go_roundw
        case rel => exact ⟨i + 1, by omega, by go_num, HT.out, HB.out.trans (hb2.mono HB.out.size)⟩
        case measure => simp [intOf]; omega
    · obtain rfl : i = n := by omega
      have hlt' : ¬ (i : Int) < (i : Int) := by omega
      have e : xs.any lngIn = false := by have := HA.out; rwa [List.take_of_length_le (by rw [Hn.out]; exact Nat.le_refl _)] at this
      have HE := Lib.hid e
      clear e
      go_wp2_with fail
      go_ret
      exact ⟨-1, by omega, by omega, rfl, by rw [HE.out]; rfl, HB.out⟩
set_option maxHeartbeats 4000000 in
theorem index_wit (v : Value) (xs : List TIn) (w : World) (h : Is w w.heap.size v xs) :
    Calls Tryd.prog 52 #[v, .func (.func 36) #[] #[]] w (IxPost (xs.any wit) w) := by
  obtain ⟨A, cap, rfl, hl, hm, hr⟩ := h
  have HR := Lib.hid hr
  have hm2 : xs.length ≤ 9223372036854775807 := by omega
  obtain ⟨n, hn⟩ : ∃ n, n = xs.length := ⟨_, rfl⟩
  have Hn := Lib.hid hn
  rw [← hn] at hm2 ⊢
  clear hr hn hl hm
  go_enter Tryd.func52, Tryd.ntmps52
  go_wp2_with fail
  go_loopw [8] (fun iv wq => ∃ i : Nat, i ≤ n ∧ iv = .int .i64 (i : Int) ∧ (xs.take i).any wit = false ∧ Below w.heap.size w wq) (fun iv _ => n - (intOf iv).toNat)
  case atStart => exact ⟨0, Nat.zero_le _, rfl, rfl, Below.refl _ _⟩
  case round =>
    obtain ⟨i, hi, rfl, ha, hb⟩ := hrel
    have HA := Lib.hid ha
    have HB := Lib.hid hb
    clear ha hb
    by_cases hlt : i < n
    · have hlt' : (i : Int) < (n : Int) := by omega
      obtain ⟨b, o, rfl, hbl, hc⟩ := HR.out (by rw [← Hn.out]; omega)
      obtain ⟨s, u, cu, hs⟩ := hc i (by rw [← Hn.out]; exact hlt)
      have cr := range_keep cu HB.out hbl
      have hok := (hs.keep HB.out (Nat.le_refl _)).up HB.out.size
      have K := Lib.hid (wit_any _ s u wr hok)
      have HI : Hid ((Tryd.prog.info? 57).map (·.size) = some (inV (xs.getD i In0) s u).length) := show (Tryd.prog.info? 57).map (·.size) = some (inV (xs.getD i In0) s u).length by rw [show (inV (xs.getD i In0) s u).length = 36 from inV_len hs.2.2.1]; kernel_rfl
      have hst := any_take_succ xs In0 wit i (by rw [← Hn.out]; exact hlt)
      have hat := any_at xs In0 wit i (by rw [← Hn.out]; exact hlt)
      rw [HA.out, Bool.false_or] at hst
      obtain ⟨C, hC⟩ : ∃ C, C = inV (xs.getD i In0) s u := ⟨_, rfl⟩
      rw [← hC] at K cr HI
      have HRg := Lib.hid cr
      cases hq : wit (xs.getD i In0) with
      | true =>
        have HT := Lib.hid (hat hq)
        rw [hq] at K
        clear hst hat hq cu hs hc cr hok hC
        go_wp2_with (first | (go_at_call 36; (with_reducible refine K.out.mono ?_); rintro e w2 ⟨rfl, hb2⟩; dsimp only) | (with_reducible refine wpList_load_mid rfl 57 (.tmp 14) rfl b (o + i * 36) rfl C _ HRg.out Tryd.underlying57 rfl HI.out ?_))
        go_ret
        exact ⟨_, by omega, by omega, rfl, by rw [HT.out]; simp, HB.out.trans (hb2.mono HB.out.size)⟩
      | false =>
        rw [hq] at hst K
        have HT := Lib.hid hst
        clear hst hat hq cu hs hc cr hok hC
        go_wp2_with (first | (go_at_call 36; (with_reducible refine K.out.mono ?_); rintro e w2 ⟨rfl, hb2⟩; dsimp only) | (with_reducible refine wpList_load_mid rfl 57 (.tmp 14) rfl b (o + i * 36) rfl C _ HRg.out Tryd.underlying57 rfl HI.out ?_))
        go_roundw
        case rel => exact ⟨i + 1, by omega, by go_num, HT.out, HB.out.trans (hb2.mono HB.out.size)⟩
        case measure => simp [intOf]; omega
    · obtain rfl : i = n := by omega
      have hlt' : ¬ (i : Int) < (i : Int) := by omega
      have e : xs.any wit = false := by have := HA.out; rwa [List.take_of_length_le (by rw [Hn.out]; exact Nat.le_refl _)] at this
      have HE := Lib.hid e
      clear e
      go_wp2_with fail
      go_ret
      exact ⟨-1, by omega, by omega, rfl, by rw [HE.out]; rfl, HB.out⟩
set_option maxHeartbeats 4000000 in
theorem index_out (v : Value) (xs : List TOut) (w : World) (h : Os w w.heap.size v xs) :
    Calls Tryd.prog 55 #[v, .func (.func 34) #[] #[]] w (IxPost (xs.any lngOut) w) := by
  obtain ⟨A, cap, rfl, hl, hm, hr⟩ := h
  have HR := Lib.hid hr
  have hm2 : xs.length ≤ 9223372036854775807 := by omega
  obtain ⟨n, hn⟩ : ∃ n, n = xs.length := ⟨_, rfl⟩
  have Hn := Lib.hid hn
  rw [← hn] at hm2 ⊢
  clear hr hn hl hm
  go_enter Tryd.func55, Tryd.ntmps55
  go_wp2_with fail
  go_loopw [8] (fun iv wq => ∃ i : Nat, i ≤ n ∧ iv = .int .i64 (i : Int) ∧ (xs.take i).any lngOut = false ∧ Below w.heap.size w wq) (fun iv _ => n - (intOf iv).toNat)
  case atStart => exact ⟨0, Nat.zero_le _, rfl, rfl, Below.refl _ _⟩
  case round =>
    obtain ⟨i, hi, rfl, ha, hb⟩ := hrel
    have HA := Lib.hid ha
    have HB := Lib.hid hb
    clear ha hb
    by_cases hlt : i < n
    · have hlt' : (i : Int) < (n : Int) := by omega
      obtain ⟨b, o, rfl, hbl, hc⟩ := HR.out (by rw [← Hn.out]; omega)
      obtain ⟨s, cu, hs⟩ := hc i (by rw [← Hn.out]; exact hlt)
      have cr := range_keep cu HB.out hbl
      have hok := (hs.keep HB.out (Nat.le_refl _)).up HB.out.size
      have K := Lib.hid (longOut_any _ s wr hok)
      have HI : Hid ((Tryd.prog.info? 43).map (·.size) = some (outV (xs.getD i Out0) s).length) := show (Tryd.prog.info? 43).map (·.size) = some (outV (xs.getD i Out0) s).length by rw [show (outV (xs.getD i Out0) s).length = 2 from rfl]; kernel_rfl
      have hst := any_take_succ xs Out0 lngOut i (by rw [← Hn.out]; exact hlt)
      have hat := any_at xs Out0 lngOut i (by rw [← Hn.out]; exact hlt)
      rw [HA.out, Bool.false_or] at hst
      obtain ⟨C, hC⟩ : ∃ C, C = outV (xs.getD i Out0) s := ⟨_, rfl⟩
      rw [← hC] at K cr HI
      have HRg := Lib.hid cr
      cases hq : lngOut (xs.getD i Out0) with
      | true =>
        have HT := Lib.hid (hat hq)
        rw [hq] at K
        clear hst hat hq cu hs hc cr hok hC
        go_wp2_with (first | (go_at_call 34; (with_reducible refine K.out.mono ?_); rintro e w2 ⟨rfl, hb2⟩; dsimp only) | (with_reducible refine wpList_load_mid rfl 43 (.tmp 14) rfl b (o + i * 2) rfl C _ HRg.out Tryd.underlying43 rfl HI.out ?_))
        go_ret
        exact ⟨_, by omega, by omega, rfl, by rw [HT.out]; simp, HB.out.trans (hb2.mono HB.out.size)⟩
      | false =>
        rw [hq] at hst K
        have HT := Lib.hid hst
        clear hst hat hq cu hs hc cr hok hC
        go_wp2_with (first | (go_at_call 34; (with_reducible refine K.out.mono ?_); rintro e w2 ⟨rfl, hb2⟩; dsimp only) | (with_reducible refine wpList_load_mid rfl 43 (.tmp 14) rfl b (o + i * 2) rfl C _ HRg.out Tryd.underlying43 rfl HI.out ?_))
        go_roundw
        case rel => exact ⟨i + 1, by omega, by go_num, HT.out, HB.out.trans (hb2.mono HB.out.size)⟩
        case measure => simp [intOf]; omega
    · obtain rfl : i = n := by omega
      have hlt' : ¬ (i : Int) < (i : Int) := by omega
      have e : xs.any lngOut = false := by have := HA.out; rwa [List.take_of_length_le (by rw [Hn.out]; exact Nat.le_refl _)] at this
      have HE := Lib.hid e
      clear e
      go_wp2_with fail
      go_ret
      exact ⟨-1, by omega, by omega, rfl, by rw [HE.out]; rfl, HB.out⟩
open Go.RowKit
set_option linter.unusedVariables false
set_option linter.unusedSimpArgs false
set_option maxRecDepth 100000
/-- Why a transaction may not be, or nought. -/
def chk (t : TTx) : Int := if fitE t.ins.length ≠ 0 then fitE t.ins.length else if fitE t.outs.length ≠ 0 then fitE t.outs.length else if t.ins.any lngIn = true ∨ t.outs.any lngOut = true then 3 else 0
def witd (t : TTx) : Bool := t.ins.any wit
def IntPost (c : Int) (w : World) (e : Ending) (w' : World) : Prop := e = .returned (.int .i64 c) ∧ Below w.heap.size w w'
theorem check_at (n1 n2 c1 c2 : Nat) (A1 A2 : Option Addr) (V Lk : Int) (e1 e2 : Int) (b1 b2 : Bool) (w : World) (h1 : fitE n1 = e1) (h2 : fitE n2 = e2)
    (k1 : ∀ wq, Below w.heap.size w wq → Calls Tryd.prog 31 #[.slice A1 n1 c1, .func (.func 32) #[] #[]] wq (BoolPost b1 wq))
    (k2 : ∀ wq, Below w.heap.size w wq → Calls Tryd.prog 33 #[.slice A2 n2 c2, .func (.func 34) #[] #[]] wq (BoolPost b2 wq)) :
    Calls Tryd.prog 12 #[.agg #[.int .u32 V, .slice A1 n1 c1, .slice A2 n2 c2, .int .u32 Lk]] w (IntPost (if e1 ≠ 0 then e1 else if e2 ≠ 0 then e2 else if b1 = true ∨ b2 = true then 3 else 0) w) := by
  have F1 := Lib.hid (fits_any n1)
  have F2 := Lib.hid (fits_any n2)
  rw [h1] at F1
  rw [h2] at F2
  have K1 := Lib.hid k1
  have K2 := Lib.hid k2
  have HB : Hid (Below w.heap.size w (w.alloc (.cells #[.int .u32 V, .slice A1 n1 c1, .slice A2 n2 c2, .int .u32 Lk] 26))) := (Below.refl _ _).alloc (Nat.le_refl _) _
  clear h1 h2 k1 k2
  by_cases d1 : e1 = 0
  · subst d1
    rw [if_neg (by decide)]
    by_cases d2 : e2 = 0
    · subst d2
      rw [if_neg (by decide)]
      cases b1 with
      | true =>
        rw [if_pos (Or.inl rfl)]
        go_enter Tryd.func12, Tryd.ntmps12
        go_wp2_with (first
          | (go_at_call 30; (with_reducible refine (F1.out _).mono ?_); rintro e w' ⟨rfl, rfl⟩; dsimp only)
          | (go_at_call 30; (with_reducible refine (F2.out _).mono ?_); rintro e w' ⟨rfl, rfl⟩; dsimp only)
          | (go_at_call 31; (with_reducible refine (K1.out _ HB.out).mono ?_); rintro e w2 ⟨rfl, hb2⟩; dsimp only))
        go_ret
        exact ⟨rfl, HB.out.trans (hb2.mono HB.out.size)⟩
      | false =>
        cases b2 with
        | true =>
          rw [if_pos (Or.inr rfl)]
          go_enter Tryd.func12, Tryd.ntmps12
          go_wp2_with (first
            | (go_at_call 30; (with_reducible refine (F1.out _).mono ?_); rintro e w' ⟨rfl, rfl⟩; dsimp only)
            | (go_at_call 30; (with_reducible refine (F2.out _).mono ?_); rintro e w' ⟨rfl, rfl⟩; dsimp only)
            | (go_at_call 31; (with_reducible refine (K1.out _ HB.out).mono ?_); rintro e w2 ⟨rfl, hb2⟩; have HB2 : Hid (Below w.heap.size w w2) := HB.out.trans (hb2.mono HB.out.size); obtain ⟨hc, hf⟩ : w2.cell? ⟨w.heap.size, 2, none⟩ = some (.slice A2 n2 c2) ∧ True := ⟨by rw [hb2.cell (p := ⟨w.heap.size, 2, none⟩) (by simp)]; exact cell_new rfl rfl, trivial⟩; dsimp only)
            | (go_at_call 33; (with_reducible refine (K2.out _ HB2.out).mono ?_); rintro e w3 ⟨rfl, hb3⟩; dsimp only))
          go_ret
          exact ⟨rfl, HB2.out.trans (hb3.mono HB2.out.size)⟩
        | false =>
          rw [if_neg (by simp)]
          go_enter Tryd.func12, Tryd.ntmps12
          go_wp2_with (first
            | (go_at_call 30; (with_reducible refine (F1.out _).mono ?_); rintro e w' ⟨rfl, rfl⟩; dsimp only)
            | (go_at_call 30; (with_reducible refine (F2.out _).mono ?_); rintro e w' ⟨rfl, rfl⟩; dsimp only)
            | (go_at_call 31; (with_reducible refine (K1.out _ HB.out).mono ?_); rintro e w2 ⟨rfl, hb2⟩; have HB2 : Hid (Below w.heap.size w w2) := HB.out.trans (hb2.mono HB.out.size); obtain ⟨hc, hf⟩ : w2.cell? ⟨w.heap.size, 2, none⟩ = some (.slice A2 n2 c2) ∧ True := ⟨by rw [hb2.cell (p := ⟨w.heap.size, 2, none⟩) (by simp)]; exact cell_new rfl rfl, trivial⟩; dsimp only)
            | (go_at_call 33; (with_reducible refine (K2.out _ HB2.out).mono ?_); rintro e w3 ⟨rfl, hb3⟩; dsimp only))
          go_ret
          exact ⟨rfl, HB2.out.trans (hb3.mono HB2.out.size)⟩
    · rw [if_pos d2]
      have d3 : (e2 != 0) = true := by simpa using d2
      clear d2
      go_enter Tryd.func12, Tryd.ntmps12
      go_wp2_with (first
        | (go_at_call 30; (with_reducible refine (F1.out _).mono ?_); rintro e w' ⟨rfl, rfl⟩; dsimp only)
        | (go_at_call 30; (with_reducible refine (F2.out _).mono ?_); rintro e w' ⟨rfl, rfl⟩; dsimp only))
      go_ret
      exact ⟨rfl, HB.out⟩
  · rw [if_pos d1]
    have d3 : (e1 != 0) = true := by simpa using d1
    clear d1
    go_enter Tryd.func12, Tryd.ntmps12
    go_wp2_with (go_at_call 30; (with_reducible refine (F1.out _).mono ?_); rintro e w' ⟨rfl, rfl⟩; dsimp only)
    go_ret
    exact ⟨rfl, HB.out⟩
theorem check_any (t : TTx) (i o : Value) (w : World) (h : TxOk w w.heap.size t i o) : Calls Tryd.prog 12 #[txV t i o] w (IntPost (chk t) w) := by
  obtain ⟨hi, ho, _, _⟩ := h
  have hi' := hi
  have ho' := ho
  obtain ⟨A1, c1, rfl, _⟩ := hi
  obtain ⟨A2, c2, rfl, _⟩ := ho
  exact check_at t.ins.length t.outs.length c1 c2 A1 A2 _ _ _ _ (t.ins.any lngIn) (t.outs.any lngOut) w rfl rfl
    (fun wq hq => contains50 _ _ _ wq (index_long _ t.ins wq ((hi'.keep hq (Nat.le_refl _)).up hq.size)))
    (fun wq hq => contains71 _ _ _ wq (index_out _ t.outs wq ((ho'.keep hq (Nat.le_refl _)).up hq.size)))
theorem witnessed_at (n1 n2 c1 c2 : Nat) (A1 A2 : Option Addr) (V Lk : Int) (b1 : Bool) (w : World)
    (k1 : ∀ wq, Below w.heap.size w wq → Calls Tryd.prog 31 #[.slice A1 n1 c1, .func (.func 36) #[] #[]] wq (BoolPost b1 wq)) :
    Calls Tryd.prog 14 #[.agg #[.int .u32 V, .slice A1 n1 c1, .slice A2 n2 c2, .int .u32 Lk]] w (BoolPost b1 w) := by
  have K1 := Lib.hid k1
  have HB : Hid (Below w.heap.size w (w.alloc (.cells #[.int .u32 V, .slice A1 n1 c1, .slice A2 n2 c2, .int .u32 Lk] 26))) := (Below.refl _ _).alloc (Nat.le_refl _) _
  clear k1
  go_enter Tryd.func14, Tryd.ntmps14
  go_wp2_with (go_at_call 31; (with_reducible refine (K1.out _ HB.out).mono ?_); rintro e w2 ⟨rfl, hb2⟩; dsimp only)
  go_ret
  exact ⟨rfl, HB.out.trans (hb2.mono HB.out.size)⟩
theorem witnessed_any (t : TTx) (i o : Value) (w : World) (h : TxOk w w.heap.size t i o) : Calls Tryd.prog 14 #[txV t i o] w (BoolPost (witd t) w) := by
  obtain ⟨hi, ho, _, _⟩ := h
  have hi' := hi
  obtain ⟨A1, c1, rfl, _⟩ := hi
  obtain ⟨A2, c2, rfl, _⟩ := ho
  exact witnessed_at t.ins.length t.outs.length c1 c2 A1 A2 _ _ _ w
    (fun wq hq => contains50 _ _ _ wq (index_wit _ t.ins wq ((hi'.keep hq (Nat.le_refl _)).up hq.size)))
open Go.RowKit
set_option linter.unusedVariables false
set_option linter.unusedSimpArgs false
set_option maxRecDepth 100000
/-- Nothing that lay there in W0 has changed. -/
def SB (W0 w : World) : Prop := Below W0.heap.size W0 w
theorem SB.size {W0 w : World} (h : SB W0 w) : W0.heap.size ≤ w.heap.size := Below.size h
theorem SB.next {W0 w w' : World} (h : SB W0 w) (hb : Below w.heap.size w w') : SB W0 w' := Below.trans h (hb.mono h.size)
theorem SB.cell {W0 w : World} (h : SB W0 w) {b o : Nat} {v : Value} (hc : W0.cell? ⟨b, o, none⟩ = some v) : w.cell? ⟨b, o, none⟩ = some v := by
  rw [Below.cell h (p := ⟨b, o, none⟩) (World.block_lt_of_cell? _ _ hc)]; exact hc
theorem SB.refl (w : World) : SB w w := Below.refl _ _
/-- The variable in block cb holds the value v, a row of the call's own with the bytes L; below B all is as in w0. -/
structure CapV (w0 : World) (B cb : Nat) (v : Value) (w : World) (L : List (BitVec 8)) : Prop where
  blk : Blk w cb 27 [v]
  ob : OB w B v L
  bel : Below B w0 w
  le : B ≤ cb
  sz : B ≤ w0.heap.size
theorem CapV.drew {w0 : World} {B cb : Nat} {v : Value} {w : World} {L : List (BitVec 8)} (h : CapV w0 B cb v w L) : CapV w0 B cb v w.drew L := ⟨h.blk, h.ob, h.bel.drew, h.le, h.sz⟩
theorem CapV.next {w0 : World} {B cb : Nat} {v : Value} {w w' : World} {L : List (BitVec 8)} (h : CapV w0 B cb v w L) (hb : Below w.heap.size w w') : CapV w0 B cb v w' L :=
  ⟨h.blk.below hb h.blk.lt, OB.below (B' := 0) h.ob hb, h.bel.trans (hb.mono (Nat.le_trans h.sz h.bel.size)), h.le, h.sz⟩
theorem CapV.hB {w0 : World} {B cb : Nat} {v : Value} {w : World} {L : List (BitVec 8)} (h : CapV w0 B cb v w L) : B ≤ w.heap.size := Nat.le_trans h.sz h.bel.size
theorem own_ne {w : World} {B cb g : Nat} {v u : Value} {L : List (BitVec 8)} (h : OB w B v L) (hb : Blk w cb 27 [u]) (hg : v.ownBlock = some g) : g ≠ cb := by
  intro e
  subst e
  rcases h.2 with ⟨rfl, _⟩ | ⟨g', cap, cur, rfl, _, hgg, _⟩
  · simp [Value.ownBlock] at hg
  · have : g' = g := by simpa [Value.ownBlock] using hg
    subst this
    unfold Blk at hb
    rw [hgg] at hb
    simp at hb
theorem OB.aside {w : World} {B cb : Nat} {v u x : Value} {L : List (BitVec 8)} (h : OB w B v L) (hb : Blk w cb 27 [u]) : OB (w.setCell ⟨cb, 0, none⟩ x) B v L := by
  refine ⟨h.1, ?_⟩
  rcases h.2 with hn | ⟨g, cap, cur, rfl, hbb, hgg, rest⟩
  · exact .inl hn
  · refine .inr ⟨g, cap, cur, rfl, hbb, ?_, rest⟩
    rw [Below.heap_setCell _ _ _ _ (fun e => own_ne h hb (g := g) (by simp [Value.ownBlock]) e)]
    exact hgg
/-- Behind an append to the variable's value: what the store asks for, and what it makes. -/
theorem CapV.app {w0 : World} {B cb m : Nat} {v v' : Value} {w w' : World} {L M : List (BitVec 8)} (h : CapV w0 B cb v w L) (h2 : w'.ownsRow B 5 1 v' (L.length + m) (vbs L ++ vbs M)) (h3 : w.grownBy w' v.ownBlock) :
    w'.cell? ⟨cb, 0, none⟩ = some v ∧ w'.frozen? ⟨cb, 0, none⟩ = false ∧ CapV w0 B cb v' (w'.setCell ⟨cb, 0, none⟩ v') (L ++ M) ∧ ∃ A n c, v' = .slice A n c := by
  have hm : m = M.length := by have := h2.1; simp only [List.length_append, vbs_len] at this; omega
  subst hm
  have hA := OB.app h.ob h.bel h.hB (Nat.le_refl _) h2 h3
  have hne : some cb ≠ v.ownBlock := fun e => own_ne h.ob h.blk e.symm rfl
  have hb' := h.blk.grown h3 hne
  refine ⟨hb'.cell rfl, hb'.free 0, ⟨hb'.set 0 v', hA.1.aside hb', hA.2.setCell h.le _, h.le, h.sz⟩, ?_⟩
  rcases hA.1.2 with ⟨rfl, _⟩ | ⟨g, cap, cur, rfl, _⟩ <;> exact ⟨_, _, _, rfl⟩
theorem slice55all (b o : Nat) (w : World) : (Instr.sliceAt 38 (.pointer (some ⟨b, o, none⟩)) none none none).run Tryd.prog w = .ok (.slice (some ⟨b, o, none⟩) 32 32) w := by
  rw [run_sliceAt_array_all w 38 _ (by kernel_rfl)]
  have hs : (sizeOf (Tryd.prog.elem 38)).run Tryd.prog w = .ok 1 w := by kernel_rfl
  have hl : Tryd.prog.arrayLen 38 = 32 := by kernel_rfl
  rw [hs, hl]
  rfl
theorem slice_form {w : World} {B : Nat} {v : Value} {L : List (BitVec 8)} (h : OB w B v L) : ∃ A c, v = .slice A L.length c ∧ Rd w w.heap.size A L ∧ (A = none → c = 0) := by
  obtain ⟨A, c, e, hr, _, _, hc⟩ := h.rd
  exact ⟨A, c, e, hr, hc⟩
/-- The bytes of an input, of an output, of a witness. -/
def txt (L : List (BitVec 8)) : List (BitVec 8) := form L.length ++ L
def inB (x : TIn) : List (BitVec 8) := x.tx ++ les x.ix 4 ++ txt x.sc ++ les x.sq 4
def u64 (z : Int) : Nat := (z % 18446744073709551616).toNat
def outB (y : TOut) : List (BitVec 8) := les (u64 y.vl) 8 ++ txt y.sc
def witB (x : TIn) : List (BitVec 8) := form x.wt.length ++ (x.wt.map txt).flatten
open Go.RowKit
set_option linter.unusedVariables false
set_option linter.unusedSimpArgs false
set_option maxRecDepth 100000
/-- Behind a closure that appends to the variable: nought is told, and it holds M. -/
def WrPost (w0 : World) (B cb : Nat) (M : List (BitVec 8)) (e : Ending) (w' : World) : Prop := e = .returned (.int .i64 0) ∧ ∃ v, CapV w0 B cb v w' M
theorem nmb_w (k n : Nat) (w : World) (hk : isW k = true) (hn : n < 2 ^ (8 * k)) (hn64 : n < 18446744073709551616) :
    Calls Tryd.prog 67 #[.int .i64 (k : Int), .int .u64 (n : Int)] w fun e w' => ∃ A c, e = .returned (.slice A k c) ∧ Src22 w' A k (vbs (les n k)) ∧ (A = none → c = 0) ∧ Below w.heap.size w w' :=
  (number_any k n w hk hn hn64).mono fun e w' ⟨v, he, ho, hb⟩ => by
    obtain ⟨A, c, rfl, hr, hc⟩ := slice_form ho
    have hs := src_of_rd hr
    rw [les_len] at hs he
    exact ⟨A, c, he, hs, hc, hb⟩
theorem num4_w (n : Nat) (w : World) (hn : n < 4294967296) :
    Calls Tryd.prog 67 #[.int .i64 4, .int .u64 (n : Int)] w fun e w' => ∃ A c, e = .returned (.slice A 4 c) ∧ Src22 w' A 4 (vbs (les n 4)) ∧ (A = none → c = 0) ∧ Below w.heap.size w w' := nmb_w 4 n w rfl (by simpa using hn) (by omega)
theorem num8_w (n : Nat) (w : World) (hn : n < 18446744073709551616) :
    Calls Tryd.prog 67 #[.int .i64 8, .int .u64 (n : Int)] w fun e w' => ∃ A c, e = .returned (.slice A 8 c) ∧ Src22 w' A 8 (vbs (les n 8)) ∧ (A = none → c = 0) ∧ Below w.heap.size w w' := nmb_w 8 n w rfl (by simpa using hn) hn
theorem text_w (T : List (BitVec 8)) (A2 : Option Addr) (n cap2 m : Nat) (w : World) (hn : T.length = n) (hm : (txt T).length = m) (hR2 : Rd w w.heap.size A2 T) (hc2 : A2 = none → cap2 = 0) (hl2 : T.length ≤ 100000) :
    Calls Tryd.prog 71 #[.slice none 0 0, .slice A2 n cap2] w fun e w' => ∃ A c, e = .returned (.slice A m c) ∧ Src22 w' A m (vbs (txt T)) ∧ (A = none → c = 0) ∧ Below w.heap.size w w' := by
  subst hn
  have h := putText_any none A2 [] T 0 cap2 w.heap.size w (fun h => by simp at h) hR2 (Nat.le_refl _) hc2 (by simp) (by omega)
  rw [List.nil_append] at h
  refine h.mono fun e w' ⟨v, he, ho, hb⟩ => ?_
  obtain ⟨A, c, rfl, hr, hc⟩ := slice_form ho
  have hs := src_of_rd hr
  have e2 : (form T.length ++ T).length = m := hm
  rw [e2] at hs he
  exact ⟨A, c, he, hs, hc, hb⟩
theorem count_w (n m : Nat) (w : World) (hn : n < 9223372036854775808) (hm : (form n).length = m) :
    Calls Tryd.prog 68 #[.int .i64 (n : Int)] w fun e w' => ∃ A c, e = .returned (.slice A m c) ∧ Src22 w' A m (vbs (form n)) ∧ (A = none → c = 0) ∧ Below w.heap.size w w' :=
  (count_any n w hn).mono fun e w' ⟨v, he, ho, hb⟩ => by
    obtain ⟨A, c, rfl, hr, hc⟩ := slice_form ho
    have hs := src_of_rd hr
    rw [hm] at hs he
    exact ⟨A, c, he, hs, hc, hb⟩
theorem txt_len (T : List (BitVec 8)) : (txt T).length ≤ T.length + 9 := by
  have := wid_le T.length
  simp only [txt, List.length_append, form_len]
  omega
set_option maxHeartbeats 8000000 in
theorem wIn_any (x : TIn) (s u : Value) (g o B cb : Nat) (v : Value) (w0 w : World) (L : List (BitVec 8)) (hg : g < B) (hr : w0.rangeAt g o (inV x s u)) (hok : InOk w0 B x s u) (hC : CapV w0 B cb v w L) (hl : L.length ≤ 1000000) (hsc : x.sc.length ≤ 100000) :
    Calls Tryd.prog 70 #[.pointer (some ⟨g, o, none⟩), .pointer (some ⟨cb, 0, none⟩)] w (WrPost w0 B cb (L ++ inB x)) := by
  obtain ⟨hs, hu, h32, hix, hsq⟩ := hok
  obtain ⟨e32, e33, e34, e35⟩ := inV_at (x := x) (s := s) (v := u) h32
  have hsl := hs
  obtain ⟨A1, c1, rfl, hrd, _, _, hcn⟩ := hs
  have htx : Rd w0 B (some ⟨g, o, none⟩) x.tx := fun _ => ⟨g, o, rfl, hg, fun j hj => hr j _ (inV_tx hj)⟩
  have c32 := hr 32 _ e32
  have c33 := hr 33 _ e33
  have c34 := hr 34 _ e34
  have HX : Hid (∀ wq, Below B w0 wq → Src22 wq (some ⟨g, o, none⟩) 32 (vbs x.tx) ∧ wq.cell? ⟨g, o + 32, none⟩ = some (.int .u32 (x.ix : Int)) ∧ wq.cell? ⟨g, o + 33, none⟩ = some (.slice A1 x.sc.length c1) ∧ wq.cell? ⟨g, o + 34, none⟩ = some (.int .u32 (x.sq : Int)) ∧ Rd wq B A1 x.sc) := fun wq hq =>
    ⟨by have := src_of_rd (htx.keep hq); rwa [h32] at this, by rw [hq.cell (p := ⟨g, o + 32, none⟩) hg]; exact c32, by rw [hq.cell (p := ⟨g, o + 33, none⟩) hg]; exact c33, by rw [hq.cell (p := ⟨g, o + 34, none⟩) hg]; exact c34, hrd.keep hq⟩
  have hwix : IntKind.u64.wrap (x.ix : Int) = (x.ix : Int) := by rw [IntKind.wrap_u64]; omega
  have hwsq : IntKind.u64.wrap (x.sq : Int) = (x.sq : Int) := by rw [IntKind.wrap_u64]; omega
  have K1 := Lib.hid (fun wq => num4_w x.ix wq hix)
  have K3 := Lib.hid (fun wq => num4_w x.sq wq hsq)
  obtain ⟨m2, hm2⟩ : ∃ m, m = (txt x.sc).length := ⟨_, rfl⟩
  have hm2l : m2 ≤ 100009 := by have := txt_len x.sc; omega
  obtain ⟨n1, hn1⟩ : ∃ n, n = x.sc.length := ⟨_, rfl⟩
  have K2 : Hid (∀ wq, Below B w0 wq → B ≤ wq.heap.size → Calls Tryd.prog 71 #[.slice none 0 0, .slice A1 n1 c1] wq fun e w' => ∃ A c, e = .returned (.slice A m2 c) ∧ Src22 w' A m2 (vbs (txt x.sc)) ∧ (A = none → c = 0) ∧ Below wq.heap.size wq w') := fun wq hq hB =>
    text_w x.sc A1 n1 c1 m2 wq hn1.symm hm2.symm ((HX.out wq hq).2.2.2.2.up hB) hcn hsc
  rw [← hn1] at HX
  have h55 := slice55all g o
  have Hm2 := Lib.hid hm2
  have Hl32 := Lib.hid h32
  clear hr hu e32 e33 e34 e35 hsl hrd htx c32 c33 c34 hcn hsc hn1 hm2 h32
  obtain ⟨L0, hL0⟩ : ∃ M, M = L ++ inB x := ⟨_, rfl⟩
  rw [← hL0]
  have HL0 := Lib.hid hL0
  clear hL0
  go_enter Tryd.func70, Tryd.ntmps70
  go_upto_region 1 with fail
  generalize hWd : w.drew = Wd
  have hCd : CapV w0 B cb v Wd L := by rw [← hWd]; exact hC.drew
  have EC : Hid (∀ wq, SB Wd wq → wq.cell? ⟨cb, 0, none⟩ = some v) := fun wq hq => hq.cell (hCd.blk.cell rfl)
  have HCd := Lib.hid hCd
  clear hCd hC
  refine wp_region_to (z := 6) (SB Wd) (by kernel_rfl) ?_
  rw [hWd]
  have hS : SB Wd Wd := SB.refl Wd
  clear hWd
  refine AnyTo.take (i := 0) (v := v) rfl (by kernel_rfl) (by kernel_rfl) (by kernel_rfl) (by kernel_rfl) (by kernel_rfl) (fun _ _ _ h => h) (Or.inl ⟨by rfl, ?_⟩) hS ?_
  · intro wq hq
    have dq0 := EC.out wq hq
    go_simp
  try simp only [Act.put, List.setIfInBounds_toArray, List.set_cons_zero, List.set_cons_succ, List.getElem_toArray, List.getElem_cons_zero, List.getElem_cons_succ]
  refine AnyTo.take (i := 1) (v := ?_) rfl (by kernel_rfl) (by kernel_rfl) (by kernel_rfl) (by kernel_rfl) (by kernel_rfl) (fun _ _ _ h => h) (Or.inl ⟨by rfl, ?_⟩) hS ?_
  rotate_left
  · (intro wq hq; go_simp; try with_reducible rfl)
  try simp only [Act.put, List.setIfInBounds_toArray, List.set_cons_zero, List.set_cons_succ, List.getElem_toArray, List.getElem_cons_zero, List.getElem_cons_succ]
  refine AnyTo.take (i := 2) (v := ?_) rfl (by kernel_rfl) (by kernel_rfl) (by kernel_rfl) (by kernel_rfl) (by kernel_rfl) (fun _ _ _ h => h) (Or.inl ⟨by rfl, ?_⟩) hS ?_
  rotate_left
  · (intro wq hq; go_simp; try with_reducible rfl)
  try simp only [Act.put, List.setIfInBounds_toArray, List.set_cons_zero, List.set_cons_succ, List.getElem_toArray, List.getElem_cons_zero, List.getElem_cons_succ]
  refine AnyTo.take (i := 3) (v := ?_) rfl (by kernel_rfl) (by kernel_rfl) (by kernel_rfl) (by kernel_rfl) (by kernel_rfl) (fun _ _ _ h => h) (Or.inl ⟨by rfl, ?_⟩) hS ?_
  rotate_left
  · (intro wq hq; go_simp; try with_reducible rfl)
  try simp only [Act.put, List.setIfInBounds_toArray, List.set_cons_zero, List.set_cons_succ, List.getElem_toArray, List.getElem_cons_zero, List.getElem_cons_succ]
  refine AnyTo.take (i := 4) (v := ?_) rfl (by kernel_rfl) (by kernel_rfl) (by kernel_rfl) (by kernel_rfl) (by kernel_rfl) (fun _ _ _ h => h) (Or.inl ⟨by rfl, ?_⟩) hS ?_
  rotate_left
  · (intro wq hq; go_simp; try with_reducible rfl)
  try simp only [Act.put, List.setIfInBounds_toArray, List.set_cons_zero, List.set_cons_succ, List.getElem_toArray, List.getElem_cons_zero, List.getElem_cons_succ]
  refine AnyTo.take (i := 5) (v := .slice (some ⟨g, o, none⟩) 32 32) rfl (by kernel_rfl) (by kernel_rfl) (by kernel_rfl) (by kernel_rfl) (by kernel_rfl) (fun _ _ _ h => h) (Or.inl ⟨by rfl, ?_⟩) hS ?_
  · intro wq hq
    go_simp
  try simp only [Act.put, List.setIfInBounds_toArray, List.set_cons_zero, List.set_cons_succ, List.getElem_toArray, List.getElem_cons_zero, List.getElem_cons_succ]
  have HCa := HCd.out
  refine AnyTo.gone (i := 6) (by kernel_rfl) rfl (by rfl) (fun K hK => ?_)
  refine wp_app (.tmp 4) (.tmp 9) rfl rfl B v L.length (vbs L) rfl HCa.ob (some ⟨g, o, none⟩) 32 32 (vbs x.tx) rfl (HX.out Wd HCa.bel).1 (fun h => by cases h) (by omega) HCa.hB ?_
  intro vp wa h1 h2
  obtain ⟨ca, fa, hC, Axp, lxp, cxp, rfl⟩ := CapV.app HCa h1 h2
  refine hK _ _ (fun h => absurd h (by decide)) ?_
  clear hK K
  try simp only [Act.put, List.setIfInBounds_toArray, List.set_cons_zero, List.set_cons_succ, List.getElem_toArray, List.getElem_cons_zero, List.getElem_cons_succ]
  refine AnyTo.gone (i := 7) (by kernel_rfl) rfl (by rfl) (fun K hK => ?_)
  go_simp
  refine hK _ _ (fun h => absurd h (by decide)) ?_
  clear hK K
  try simp only [Act.put, List.setIfInBounds_toArray, List.set_cons_zero, List.set_cons_succ, List.getElem_toArray, List.getElem_cons_zero, List.getElem_cons_succ]
  refine AnyTo.done (by kernel_rfl) ?_ _
  try dsimp only [Exit.then]
  generalize wa.setCell ⟨cb, 0, none⟩ (.slice Axp lxp cxp) = wp at hC ⊢
  clear ca fa h1 h2 HCa HCd EC
  obtain ⟨L1, hL1⟩ : ∃ M, M = L ++ x.tx := ⟨_, rfl⟩
  have hl1 : L1.length ≤ 1000032 := by rw [hL1, List.length_append, Hl32.out]; omega
  rw [← hL1] at hC
  have HL1 := Lib.hid hL1
  clear hL1 h55
  go_upto_region 2 with fail
  generalize hWd : wp.drew = Wd
  have hCd : CapV w0 B cb (.slice Axp lxp cxp) Wd L1 := by rw [← hWd]; exact hC.drew
  have EC : Hid (∀ wq, SB Wd wq → wq.cell? ⟨cb, 0, none⟩ = some (.slice Axp lxp cxp)) := fun wq hq => hq.cell (hCd.blk.cell rfl)
  have EX : Hid (∀ wq, SB Wd wq → wq.cell? ⟨g, o + 32, none⟩ = some (.int .u32 (x.ix : Int))) := fun wq hq => hq.cell (HX.out Wd hCd.bel).2.1
  have HCd := Lib.hid hCd
  clear hCd hC
  refine wp_region_to (z := 8) (SB Wd) (by kernel_rfl) ?_
  rw [hWd]
  have hS : SB Wd Wd := SB.refl Wd
  clear hWd
  refine AnyTo.take (i := 0) (v := (.slice Axp lxp cxp)) rfl (by kernel_rfl) (by kernel_rfl) (by kernel_rfl) (by kernel_rfl) (by kernel_rfl) (fun _ _ _ h => h) (Or.inl ⟨by rfl, ?_⟩) hS ?_
  · intro wq hq
    have dq0 := EC.out wq hq
    go_simp
  try simp only [Act.put, List.setIfInBounds_toArray, List.set_cons_zero, List.set_cons_succ, List.getElem_toArray, List.getElem_cons_zero, List.getElem_cons_succ]
  refine AnyTo.take (i := 1) (v := ?_) rfl (by kernel_rfl) (by kernel_rfl) (by kernel_rfl) (by kernel_rfl) (by kernel_rfl) (fun _ _ _ h => h) (Or.inl ⟨by rfl, ?_⟩) hS ?_
  rotate_left
  · (intro wq hq; go_simp; try with_reducible rfl)
  try simp only [Act.put, List.setIfInBounds_toArray, List.set_cons_zero, List.set_cons_succ, List.getElem_toArray, List.getElem_cons_zero, List.getElem_cons_succ]
  refine AnyTo.take (i := 2) (v := ?_) rfl (by kernel_rfl) (by kernel_rfl) (by kernel_rfl) (by kernel_rfl) (by kernel_rfl) (fun _ _ _ h => h) (Or.inl ⟨by rfl, ?_⟩) hS ?_
  rotate_left
  · (intro wq hq; go_simp; try with_reducible rfl)
  try simp only [Act.put, List.setIfInBounds_toArray, List.set_cons_zero, List.set_cons_succ, List.getElem_toArray, List.getElem_cons_zero, List.getElem_cons_succ]
  refine AnyTo.take (i := 3) (v := ?_) rfl (by kernel_rfl) (by kernel_rfl) (by kernel_rfl) (by kernel_rfl) (by kernel_rfl) (fun _ _ _ h => h) (Or.inl ⟨by rfl, ?_⟩) hS ?_
  rotate_left
  · (intro wq hq; go_simp; try with_reducible rfl)
  try simp only [Act.put, List.setIfInBounds_toArray, List.set_cons_zero, List.set_cons_succ, List.getElem_toArray, List.getElem_cons_zero, List.getElem_cons_succ]
  refine AnyTo.take (i := 4) (v := ?_) rfl (by kernel_rfl) (by kernel_rfl) (by kernel_rfl) (by kernel_rfl) (by kernel_rfl) (fun _ _ _ h => h) (Or.inl ⟨by rfl, ?_⟩) hS ?_
  rotate_left
  · (intro wq hq; go_simp; try with_reducible rfl)
  try simp only [Act.put, List.setIfInBounds_toArray, List.set_cons_zero, List.set_cons_succ, List.getElem_toArray, List.getElem_cons_zero, List.getElem_cons_succ]
  refine AnyTo.take (i := 5) (v := .int .u32 (x.ix : Int)) rfl (by kernel_rfl) (by kernel_rfl) (by kernel_rfl) (by kernel_rfl) (by kernel_rfl) (fun _ _ _ h => h) (Or.inl ⟨by rfl, ?_⟩) hS ?_
  · intro wq hq
    have dq0 := EX.out wq hq
    go_simp
  try simp only [Act.put, List.setIfInBounds_toArray, List.set_cons_zero, List.set_cons_succ, List.getElem_toArray, List.getElem_cons_zero, List.getElem_cons_succ]
  refine AnyTo.take (i := 6) (v := ?_) rfl (by kernel_rfl) (by kernel_rfl) (by kernel_rfl) (by kernel_rfl) (by kernel_rfl) (fun _ _ _ h => h) (Or.inl ⟨by rfl, ?_⟩) hS ?_
  rotate_left
  · (intro wq hq; go_simp; try with_reducible rfl)
  try simp only [Act.put, List.setIfInBounds_toArray, List.set_cons_zero, List.set_cons_succ, List.getElem_toArray, List.getElem_cons_zero, List.getElem_cons_succ]
  have HCa := HCd.out
  refine AnyTo.gone (i := 7) (by kernel_rfl) rfl (by rfl) (fun K hK => ?_)
  go_simp
  (with_reducible refine (K1.out _).mono ?_)
  rintro e wc ⟨Ac, cc, rfl, hsr, hcc, hbc⟩
  have hS : SB Wd wc := SB.next (SB.refl Wd) hbc
  have HCa := HCa.next hbc
  dsimp only
  refine hK _ _ (fun _ => hS) ?_
  clear hK K
  try simp only [Act.put, List.setIfInBounds_toArray, List.set_cons_zero, List.set_cons_succ, List.getElem_toArray, List.getElem_cons_zero, List.getElem_cons_succ]
  refine AnyTo.gone (i := 8) (by kernel_rfl) rfl (by rfl) (fun K hK => ?_)
  refine wp_app (.tmp 11) (.tmp 18) rfl rfl B (.slice Axp lxp cxp) L1.length (vbs L1) rfl HCa.ob Ac 4 cc (vbs (les x.ix 4)) rfl hsr hcc (by omega) HCa.hB ?_
  intro vq wa h1 h2
  obtain ⟨ca, fa, hC, Axq, lxq, cxq, rfl⟩ := CapV.app HCa h1 h2
  refine hK _ _ (fun h => absurd h (by decide)) ?_
  clear hK K
  try simp only [Act.put, List.setIfInBounds_toArray, List.set_cons_zero, List.set_cons_succ, List.getElem_toArray, List.getElem_cons_zero, List.getElem_cons_succ]
  refine AnyTo.gone (i := 9) (by kernel_rfl) rfl (by rfl) (fun K hK => ?_)
  go_simp
  refine hK _ _ (fun h => absurd h (by decide)) ?_
  clear hK K
  try simp only [Act.put, List.setIfInBounds_toArray, List.set_cons_zero, List.set_cons_succ, List.getElem_toArray, List.getElem_cons_zero, List.getElem_cons_succ]
  refine AnyTo.done (by kernel_rfl) ?_ _
  try dsimp only [Exit.then]
  generalize wa.setCell ⟨cb, 0, none⟩ (.slice Axq lxq cxq) = wq at hC ⊢
  clear ca fa h1 h2 HCa HCd EC
  obtain ⟨L2, hL2⟩ : ∃ M, M = L1 ++ les x.ix 4 := ⟨_, rfl⟩
  have hl2 : L2.length ≤ 1000036 := by rw [hL2, List.length_append, les_len]; omega
  rw [← hL2] at hC
  have HL2 := Lib.hid hL2
  clear hL2 EX hsr hcc hbc hS
  go_upto_region 3 with fail
  generalize hWd : wq.drew = Wd
  have hCd : CapV w0 B cb (.slice Axq lxq cxq) Wd L2 := by rw [← hWd]; exact hC.drew
  have EC : Hid (∀ wq, SB Wd wq → wq.cell? ⟨cb, 0, none⟩ = some (.slice Axq lxq cxq)) := fun wq hq => hq.cell (hCd.blk.cell rfl)
  have EX : Hid (∀ wq, SB Wd wq → wq.cell? ⟨g, o + 33, none⟩ = some (.slice A1 n1 c1)) := fun wq hq => hq.cell (HX.out Wd hCd.bel).2.2.1
  have HCd := Lib.hid hCd
  clear hCd hC
  refine wp_region_to (z := 6) (SB Wd) (by kernel_rfl) ?_
  rw [hWd]
  have hS : SB Wd Wd := SB.refl Wd
  clear hWd
  refine AnyTo.take (i := 0) (v := (.slice Axq lxq cxq)) rfl (by kernel_rfl) (by kernel_rfl) (by kernel_rfl) (by kernel_rfl) (by kernel_rfl) (fun _ _ _ h => h) (Or.inl ⟨by rfl, ?_⟩) hS ?_
  · intro wq hq
    have dq0 := EC.out wq hq
    go_simp
  try simp only [Act.put, List.setIfInBounds_toArray, List.set_cons_zero, List.set_cons_succ, List.getElem_toArray, List.getElem_cons_zero, List.getElem_cons_succ]
  refine AnyTo.take (i := 1) (v := ?_) rfl (by kernel_rfl) (by kernel_rfl) (by kernel_rfl) (by kernel_rfl) (by kernel_rfl) (fun _ _ _ h => h) (Or.inl ⟨by rfl, ?_⟩) hS ?_
  rotate_left
  · (intro wq hq; go_simp; try with_reducible rfl)
  try simp only [Act.put, List.setIfInBounds_toArray, List.set_cons_zero, List.set_cons_succ, List.getElem_toArray, List.getElem_cons_zero, List.getElem_cons_succ]
  refine AnyTo.take (i := 2) (v := ?_) rfl (by kernel_rfl) (by kernel_rfl) (by kernel_rfl) (by kernel_rfl) (by kernel_rfl) (fun _ _ _ h => h) (Or.inl ⟨by rfl, ?_⟩) hS ?_
  rotate_left
  · (intro wq hq; go_simp; try with_reducible rfl)
  try simp only [Act.put, List.setIfInBounds_toArray, List.set_cons_zero, List.set_cons_succ, List.getElem_toArray, List.getElem_cons_zero, List.getElem_cons_succ]
  refine AnyTo.take (i := 3) (v := ?_) rfl (by kernel_rfl) (by kernel_rfl) (by kernel_rfl) (by kernel_rfl) (by kernel_rfl) (fun _ _ _ h => h) (Or.inl ⟨by rfl, ?_⟩) hS ?_
  rotate_left
  · (intro wq hq; go_simp; try with_reducible rfl)
  try simp only [Act.put, List.setIfInBounds_toArray, List.set_cons_zero, List.set_cons_succ, List.getElem_toArray, List.getElem_cons_zero, List.getElem_cons_succ]
  refine AnyTo.take (i := 4) (v := .slice A1 n1 c1) rfl (by kernel_rfl) (by kernel_rfl) (by kernel_rfl) (by kernel_rfl) (by kernel_rfl) (fun _ _ _ h => h) (Or.inl ⟨by rfl, ?_⟩) hS ?_
  · intro wq hq
    have dq0 := EX.out wq hq
    go_simp
  try simp only [Act.put, List.setIfInBounds_toArray, List.set_cons_zero, List.set_cons_succ, List.getElem_toArray, List.getElem_cons_zero, List.getElem_cons_succ]
  have HCa := HCd.out
  refine AnyTo.gone (i := 5) (by kernel_rfl) rfl (by rfl) (fun K hK => ?_)
  go_simp
  (with_reducible refine (K2.out _ HCa.bel HCa.hB).mono ?_)
  rintro e wc ⟨Ac, cc, rfl, hsr, hcc, hbc⟩
  have hS : SB Wd wc := SB.next (SB.refl Wd) hbc
  have HCa := HCa.next hbc
  dsimp only
  refine hK _ _ (fun _ => hS) ?_
  clear hK K
  try simp only [Act.put, List.setIfInBounds_toArray, List.set_cons_zero, List.set_cons_succ, List.getElem_toArray, List.getElem_cons_zero, List.getElem_cons_succ]
  refine AnyTo.gone (i := 6) (by kernel_rfl) rfl (by rfl) (fun K hK => ?_)
  refine wp_app (.tmp 20) (.tmp 25) rfl rfl B (.slice Axq lxq cxq) L2.length (vbs L2) rfl HCa.ob Ac m2 cc (vbs (txt x.sc)) rfl hsr hcc (by omega) HCa.hB ?_
  intro vr wa h1 h2
  obtain ⟨ca, fa, hC, Axr, lxr, cxr, rfl⟩ := CapV.app HCa h1 h2
  refine hK _ _ (fun h => absurd h (by decide)) ?_
  clear hK K
  try simp only [Act.put, List.setIfInBounds_toArray, List.set_cons_zero, List.set_cons_succ, List.getElem_toArray, List.getElem_cons_zero, List.getElem_cons_succ]
  refine AnyTo.gone (i := 7) (by kernel_rfl) rfl (by rfl) (fun K hK => ?_)
  go_simp
  refine hK _ _ (fun h => absurd h (by decide)) ?_
  clear hK K
  try simp only [Act.put, List.setIfInBounds_toArray, List.set_cons_zero, List.set_cons_succ, List.getElem_toArray, List.getElem_cons_zero, List.getElem_cons_succ]
  refine AnyTo.done (by kernel_rfl) ?_ _
  try dsimp only [Exit.then]
  generalize wa.setCell ⟨cb, 0, none⟩ (.slice Axr lxr cxr) = wr at hC ⊢
  clear ca fa h1 h2 HCa HCd EC
  obtain ⟨L3, hL3⟩ : ∃ M, M = L2 ++ txt x.sc := ⟨_, rfl⟩
  have hl3 : L3.length ≤ 1200036 := by rw [hL3, List.length_append, ← Hm2.out]; omega
  rw [← hL3] at hC
  have HL3 := Lib.hid hL3
  clear hL3 EX hsr hcc hbc hS
  go_upto_region 4 with fail
  generalize hWd : wr.drew = Wd
  have hCd : CapV w0 B cb (.slice Axr lxr cxr) Wd L3 := by rw [← hWd]; exact hC.drew
  have EC : Hid (∀ wq, SB Wd wq → wq.cell? ⟨cb, 0, none⟩ = some (.slice Axr lxr cxr)) := fun wq hq => hq.cell (hCd.blk.cell rfl)
  have EX : Hid (∀ wq, SB Wd wq → wq.cell? ⟨g, o + 34, none⟩ = some (.int .u32 (x.sq : Int))) := fun wq hq => hq.cell (HX.out Wd hCd.bel).2.2.2.1
  have HCd := Lib.hid hCd
  clear hCd hC
  refine wp_region_to (z := 7) (SB Wd) (by kernel_rfl) ?_
  rw [hWd]
  have hS : SB Wd Wd := SB.refl Wd
  clear hWd
  refine AnyTo.take (i := 0) (v := (.slice Axr lxr cxr)) rfl (by kernel_rfl) (by kernel_rfl) (by kernel_rfl) (by kernel_rfl) (by kernel_rfl) (fun _ _ _ h => h) (Or.inl ⟨by rfl, ?_⟩) hS ?_
  · intro wq hq
    have dq0 := EC.out wq hq
    go_simp
  try simp only [Act.put, List.setIfInBounds_toArray, List.set_cons_zero, List.set_cons_succ, List.getElem_toArray, List.getElem_cons_zero, List.getElem_cons_succ]
  refine AnyTo.take (i := 1) (v := ?_) rfl (by kernel_rfl) (by kernel_rfl) (by kernel_rfl) (by kernel_rfl) (by kernel_rfl) (fun _ _ _ h => h) (Or.inl ⟨by rfl, ?_⟩) hS ?_
  rotate_left
  · (intro wq hq; go_simp; try with_reducible rfl)
  try simp only [Act.put, List.setIfInBounds_toArray, List.set_cons_zero, List.set_cons_succ, List.getElem_toArray, List.getElem_cons_zero, List.getElem_cons_succ]
  refine AnyTo.take (i := 2) (v := ?_) rfl (by kernel_rfl) (by kernel_rfl) (by kernel_rfl) (by kernel_rfl) (by kernel_rfl) (fun _ _ _ h => h) (Or.inl ⟨by rfl, ?_⟩) hS ?_
  rotate_left
  · (intro wq hq; go_simp; try with_reducible rfl)
  try simp only [Act.put, List.setIfInBounds_toArray, List.set_cons_zero, List.set_cons_succ, List.getElem_toArray, List.getElem_cons_zero, List.getElem_cons_succ]
  refine AnyTo.take (i := 3) (v := ?_) rfl (by kernel_rfl) (by kernel_rfl) (by kernel_rfl) (by kernel_rfl) (by kernel_rfl) (fun _ _ _ h => h) (Or.inl ⟨by rfl, ?_⟩) hS ?_
  rotate_left
  · (intro wq hq; go_simp; try with_reducible rfl)
  try simp only [Act.put, List.setIfInBounds_toArray, List.set_cons_zero, List.set_cons_succ, List.getElem_toArray, List.getElem_cons_zero, List.getElem_cons_succ]
  refine AnyTo.take (i := 4) (v := .int .u32 (x.sq : Int)) rfl (by kernel_rfl) (by kernel_rfl) (by kernel_rfl) (by kernel_rfl) (by kernel_rfl) (fun _ _ _ h => h) (Or.inl ⟨by rfl, ?_⟩) hS ?_
  · intro wq hq
    have dq0 := EX.out wq hq
    go_simp
  try simp only [Act.put, List.setIfInBounds_toArray, List.set_cons_zero, List.set_cons_succ, List.getElem_toArray, List.getElem_cons_zero, List.getElem_cons_succ]
  refine AnyTo.take (i := 5) (v := ?_) rfl (by kernel_rfl) (by kernel_rfl) (by kernel_rfl) (by kernel_rfl) (by kernel_rfl) (fun _ _ _ h => h) (Or.inl ⟨by rfl, ?_⟩) hS ?_
  rotate_left
  · (intro wq hq; go_simp; try with_reducible rfl)
  try simp only [Act.put, List.setIfInBounds_toArray, List.set_cons_zero, List.set_cons_succ, List.getElem_toArray, List.getElem_cons_zero, List.getElem_cons_succ]
  have HCa := HCd.out
  refine AnyTo.gone (i := 6) (by kernel_rfl) rfl (by rfl) (fun K hK => ?_)
  go_simp
  (with_reducible refine (K3.out _).mono ?_)
  rintro e wc ⟨Ac, cc, rfl, hsr, hcc, hbc⟩
  have hS : SB Wd wc := SB.next (SB.refl Wd) hbc
  have HCa := HCa.next hbc
  dsimp only
  refine hK _ _ (fun _ => hS) ?_
  clear hK K
  try simp only [Act.put, List.setIfInBounds_toArray, List.set_cons_zero, List.set_cons_succ, List.getElem_toArray, List.getElem_cons_zero, List.getElem_cons_succ]
  refine AnyTo.gone (i := 7) (by kernel_rfl) rfl (by rfl) (fun K hK => ?_)
  refine wp_app (.tmp 27) (.tmp 33) rfl rfl B (.slice Axr lxr cxr) L3.length (vbs L3) rfl HCa.ob Ac 4 cc (vbs (les x.sq 4)) rfl hsr hcc (by omega) HCa.hB ?_
  intro vt wa h1 h2
  obtain ⟨ca, fa, hC, Axt, lxt, cxt, rfl⟩ := CapV.app HCa h1 h2
  refine hK _ _ (fun h => absurd h (by decide)) ?_
  clear hK K
  try simp only [Act.put, List.setIfInBounds_toArray, List.set_cons_zero, List.set_cons_succ, List.getElem_toArray, List.getElem_cons_zero, List.getElem_cons_succ]
  refine AnyTo.gone (i := 8) (by kernel_rfl) rfl (by rfl) (fun K hK => ?_)
  go_simp
  refine hK _ _ (fun h => absurd h (by decide)) ?_
  clear hK K
  try simp only [Act.put, List.setIfInBounds_toArray, List.set_cons_zero, List.set_cons_succ, List.getElem_toArray, List.getElem_cons_zero, List.getElem_cons_succ]
  refine AnyTo.done (by kernel_rfl) ?_ _
  try dsimp only [Exit.then]
  generalize wa.setCell ⟨cb, 0, none⟩ (.slice Axt lxt cxt) = wt at hC ⊢
  clear ca fa h1 h2 HCa HCd EC
  have HC := Lib.hid hC
  clear hC EX hsr hcc hbc hS
  go_wp2_with fail
  go_ret
  exact ⟨rfl, _, by rw [HL0.out, show L ++ inB x = L3 ++ les x.sq 4 by rw [HL3.out, HL2.out, HL1.out]; simp only [inB, List.append_assoc]]; exact HC.out⟩
open Go.RowKit
set_option linter.unusedVariables false
set_option linter.unusedSimpArgs false
set_option maxRecDepth 100000
theorem u64_lt (z : Int) : u64 z < 18446744073709551616 := by unfold u64; omega
theorem wrap_u64v (z : Int) : IntKind.u64.wrap z = ((u64 z : Nat) : Int) := by rw [IntKind.wrap_u64]; unfold u64; omega
set_option maxHeartbeats 8000000 in
theorem wOut_any (y : TOut) (s : Value) (g o B cb : Nat) (v : Value) (w0 w : World) (L : List (BitVec 8)) (hg : g < B) (hr : w0.rangeAt g o (outV y s)) (hok : OutOk w0 B y s) (hC : CapV w0 B cb v w L) (hl : L.length ≤ 1000000) (hsc : y.sc.length ≤ 100000) :
    Calls Tryd.prog 73 #[.pointer (some ⟨g, o, none⟩), .pointer (some ⟨cb, 0, none⟩)] w (WrPost w0 B cb (L ++ outB y)) := by
  obtain ⟨hs, hv1, hv2⟩ := hok
  obtain ⟨A1, c1, rfl, hrd, _, _, hcn⟩ := hs
  have c0 := hr 0 _ (rfl : (outV y (.slice A1 y.sc.length c1))[0]? = some (.int .i64 y.vl))
  have c1' := hr 1 _ (rfl : (outV y (.slice A1 y.sc.length c1))[1]? = some (.slice A1 y.sc.length c1))
  have HX : Hid (∀ wq, Below B w0 wq → wq.cell? ⟨g, o, none⟩ = some (.int .i64 y.vl) ∧ wq.cell? ⟨g, o + 1, none⟩ = some (.slice A1 y.sc.length c1) ∧ Rd wq B A1 y.sc) := fun wq hq =>
    ⟨by rw [hq.cell (p := ⟨g, o, none⟩) hg]; exact c0, by rw [hq.cell (p := ⟨g, o + 1, none⟩) hg]; exact c1', hrd.keep hq⟩
  have hwv := wrap_u64v y.vl
  obtain ⟨nv, hnv⟩ : ∃ n, n = u64 y.vl := ⟨_, rfl⟩
  have K1 : Hid (∀ wq, Calls Tryd.prog 67 #[.int .i64 8, .int .u64 (nv : Int)] wq fun e w' => ∃ A c, e = .returned (.slice A 8 c) ∧ Src22 w' A 8 (vbs (les nv 8)) ∧ (A = none → c = 0) ∧ Below wq.heap.size wq w') := fun wq => num8_w nv wq (by rw [hnv]; exact u64_lt _)
  rw [← hnv] at hwv
  obtain ⟨m2, hm2⟩ : ∃ m, m = (txt y.sc).length := ⟨_, rfl⟩
  have hm2l : m2 ≤ 100009 := by have := txt_len y.sc; omega
  obtain ⟨n1, hn1⟩ : ∃ n, n = y.sc.length := ⟨_, rfl⟩
  have K2 : Hid (∀ wq, Below B w0 wq → B ≤ wq.heap.size → Calls Tryd.prog 71 #[.slice none 0 0, .slice A1 n1 c1] wq fun e w' => ∃ A c, e = .returned (.slice A m2 c) ∧ Src22 w' A m2 (vbs (txt y.sc)) ∧ (A = none → c = 0) ∧ Below wq.heap.size wq w') := fun wq hq hB =>
    text_w y.sc A1 n1 c1 m2 wq hn1.symm hm2.symm ((HX.out wq hq).2.2.up hB) hcn hsc
  rw [← hn1] at HX
  have Hm2 := Lib.hid hm2
  have Hnv := Lib.hid hnv
  clear hr hrd c0 c1' hcn hsc hn1 hm2 hnv
  obtain ⟨L0, hL0⟩ : ∃ M, M = L ++ outB y := ⟨_, rfl⟩
  rw [← hL0]
  have HL0 := Lib.hid hL0
  clear hL0
  go_enter Tryd.func73, Tryd.ntmps73
  go_upto_region 1 with fail
  generalize hWd : w.drew = Wd
  have hCd : CapV w0 B cb v Wd L := by rw [← hWd]; exact hC.drew
  have EC : Hid (∀ wq, SB Wd wq → wq.cell? ⟨cb, 0, none⟩ = some v) := fun wq hq => hq.cell (hCd.blk.cell rfl)
  have EX : Hid (∀ wq, SB Wd wq → wq.cell? ⟨g, o, none⟩ = some (.int .i64 y.vl)) := fun wq hq => hq.cell (HX.out Wd hCd.bel).1
  have HCd := Lib.hid hCd
  clear hCd hC
  refine wp_region_to (z := 7) (SB Wd) (by kernel_rfl) ?_
  rw [hWd]
  have hS : SB Wd Wd := SB.refl Wd
  clear hWd
  refine AnyTo.take (i := 0) (v := v) rfl (by kernel_rfl) (by kernel_rfl) (by kernel_rfl) (by kernel_rfl) (by kernel_rfl) (fun _ _ _ h => h) (Or.inl ⟨by rfl, ?_⟩) hS ?_
  · intro wq hq
    have dq0 := EC.out wq hq
    go_simp
  try simp only [Act.put, List.setIfInBounds_toArray, List.set_cons_zero, List.set_cons_succ, List.getElem_toArray, List.getElem_cons_zero, List.getElem_cons_succ]
  refine AnyTo.take (i := 1) (v := ?_) rfl (by kernel_rfl) (by kernel_rfl) (by kernel_rfl) (by kernel_rfl) (by kernel_rfl) (fun _ _ _ h => h) (Or.inl ⟨by rfl, ?_⟩) hS ?_
  rotate_left
  · (intro wq hq; go_simp; try with_reducible rfl)
  try simp only [Act.put, List.setIfInBounds_toArray, List.set_cons_zero, List.set_cons_succ, List.getElem_toArray, List.getElem_cons_zero, List.getElem_cons_succ]
  refine AnyTo.take (i := 2) (v := ?_) rfl (by kernel_rfl) (by kernel_rfl) (by kernel_rfl) (by kernel_rfl) (by kernel_rfl) (fun _ _ _ h => h) (Or.inl ⟨by rfl, ?_⟩) hS ?_
  rotate_left
  · (intro wq hq; go_simp; try with_reducible rfl)
  try simp only [Act.put, List.setIfInBounds_toArray, List.set_cons_zero, List.set_cons_succ, List.getElem_toArray, List.getElem_cons_zero, List.getElem_cons_succ]
  refine AnyTo.take (i := 3) (v := ?_) rfl (by kernel_rfl) (by kernel_rfl) (by kernel_rfl) (by kernel_rfl) (by kernel_rfl) (fun _ _ _ h => h) (Or.inl ⟨by rfl, ?_⟩) hS ?_
  rotate_left
  · (intro wq hq; go_simp; try with_reducible rfl)
  try simp only [Act.put, List.setIfInBounds_toArray, List.set_cons_zero, List.set_cons_succ, List.getElem_toArray, List.getElem_cons_zero, List.getElem_cons_succ]
  refine AnyTo.take (i := 4) (v := .int .i64 y.vl) rfl (by kernel_rfl) (by kernel_rfl) (by kernel_rfl) (by kernel_rfl) (by kernel_rfl) (fun _ _ _ h => h) (Or.inl ⟨by rfl, ?_⟩) hS ?_
  · intro wq hq
    have dq0 := EX.out wq hq
    go_simp
  try simp only [Act.put, List.setIfInBounds_toArray, List.set_cons_zero, List.set_cons_succ, List.getElem_toArray, List.getElem_cons_zero, List.getElem_cons_succ]
  refine AnyTo.take (i := 5) (v := .int .u64 (nv : Int)) rfl (by kernel_rfl) (by kernel_rfl) (by kernel_rfl) (by kernel_rfl) (by kernel_rfl) (fun _ _ _ h => h) (Or.inl ⟨by rfl, ?_⟩) hS ?_
  · intro wq hq
    go_simp
  try simp only [Act.put, List.setIfInBounds_toArray, List.set_cons_zero, List.set_cons_succ, List.getElem_toArray, List.getElem_cons_zero, List.getElem_cons_succ]
  have HCa := HCd.out
  refine AnyTo.gone (i := 6) (by kernel_rfl) rfl (by rfl) (fun K hK => ?_)
  go_simp
  (with_reducible refine (K1.out _).mono ?_)
  rintro e wc ⟨Ac, cc, rfl, hsr, hcc, hbc⟩
  have hS : SB Wd wc := SB.next (SB.refl Wd) hbc
  have HCa := HCa.next hbc
  dsimp only
  refine hK _ _ (fun _ => hS) ?_
  clear hK K
  try simp only [Act.put, List.setIfInBounds_toArray, List.set_cons_zero, List.set_cons_succ, List.getElem_toArray, List.getElem_cons_zero, List.getElem_cons_succ]
  refine AnyTo.gone (i := 7) (by kernel_rfl) rfl (by rfl) (fun K hK => ?_)
  refine wp_app (.tmp 4) (.tmp 10) rfl rfl B v L.length (vbs L) rfl HCa.ob Ac 8 cc (vbs (les nv 8)) rfl hsr hcc (by omega) HCa.hB ?_
  intro vp wa h1 h2
  obtain ⟨ca, fa, hC, Axp, lxp, cxp, rfl⟩ := CapV.app HCa h1 h2
  refine hK _ _ (fun h => absurd h (by decide)) ?_
  clear hK K
  try simp only [Act.put, List.setIfInBounds_toArray, List.set_cons_zero, List.set_cons_succ, List.getElem_toArray, List.getElem_cons_zero, List.getElem_cons_succ]
  refine AnyTo.gone (i := 8) (by kernel_rfl) rfl (by rfl) (fun K hK => ?_)
  go_simp
  refine hK _ _ (fun h => absurd h (by decide)) ?_
  clear hK K
  try simp only [Act.put, List.setIfInBounds_toArray, List.set_cons_zero, List.set_cons_succ, List.getElem_toArray, List.getElem_cons_zero, List.getElem_cons_succ]
  refine AnyTo.done (by kernel_rfl) ?_ _
  try dsimp only [Exit.then]
  generalize wa.setCell ⟨cb, 0, none⟩ (.slice Axp lxp cxp) = wp at hC ⊢
  clear ca fa h1 h2 HCa HCd EC
  obtain ⟨L1, hL1⟩ : ∃ M, M = L ++ les nv 8 := ⟨_, rfl⟩
  have hl1 : L1.length ≤ 1000036 := by rw [hL1, List.length_append, les_len]; omega
  rw [← hL1] at hC
  have HL1 := Lib.hid hL1
  clear hL1 EX hsr hcc hbc hS
  go_upto_region 2 with fail
  generalize hWd : wp.drew = Wd
  have hCd : CapV w0 B cb (.slice Axp lxp cxp) Wd L1 := by rw [← hWd]; exact hC.drew
  have EC : Hid (∀ wq, SB Wd wq → wq.cell? ⟨cb, 0, none⟩ = some (.slice Axp lxp cxp)) := fun wq hq => hq.cell (hCd.blk.cell rfl)
  have EX : Hid (∀ wq, SB Wd wq → wq.cell? ⟨g, o + 1, none⟩ = some (.slice A1 n1 c1)) := fun wq hq => hq.cell (HX.out Wd hCd.bel).2.1
  have HCd := Lib.hid hCd
  clear hCd hC
  refine wp_region_to (z := 6) (SB Wd) (by kernel_rfl) ?_
  rw [hWd]
  have hS : SB Wd Wd := SB.refl Wd
  clear hWd
  refine AnyTo.take (i := 0) (v := (.slice Axp lxp cxp)) rfl (by kernel_rfl) (by kernel_rfl) (by kernel_rfl) (by kernel_rfl) (by kernel_rfl) (fun _ _ _ h => h) (Or.inl ⟨by rfl, ?_⟩) hS ?_
  · intro wq hq
    have dq0 := EC.out wq hq
    go_simp
  try simp only [Act.put, List.setIfInBounds_toArray, List.set_cons_zero, List.set_cons_succ, List.getElem_toArray, List.getElem_cons_zero, List.getElem_cons_succ]
  refine AnyTo.take (i := 1) (v := ?_) rfl (by kernel_rfl) (by kernel_rfl) (by kernel_rfl) (by kernel_rfl) (by kernel_rfl) (fun _ _ _ h => h) (Or.inl ⟨by rfl, ?_⟩) hS ?_
  rotate_left
  · (intro wq hq; go_simp; try with_reducible rfl)
  try simp only [Act.put, List.setIfInBounds_toArray, List.set_cons_zero, List.set_cons_succ, List.getElem_toArray, List.getElem_cons_zero, List.getElem_cons_succ]
  refine AnyTo.take (i := 2) (v := ?_) rfl (by kernel_rfl) (by kernel_rfl) (by kernel_rfl) (by kernel_rfl) (by kernel_rfl) (fun _ _ _ h => h) (Or.inl ⟨by rfl, ?_⟩) hS ?_
  rotate_left
  · (intro wq hq; go_simp; try with_reducible rfl)
  try simp only [Act.put, List.setIfInBounds_toArray, List.set_cons_zero, List.set_cons_succ, List.getElem_toArray, List.getElem_cons_zero, List.getElem_cons_succ]
  refine AnyTo.take (i := 3) (v := ?_) rfl (by kernel_rfl) (by kernel_rfl) (by kernel_rfl) (by kernel_rfl) (by kernel_rfl) (fun _ _ _ h => h) (Or.inl ⟨by rfl, ?_⟩) hS ?_
  rotate_left
  · (intro wq hq; go_simp; try with_reducible rfl)
  try simp only [Act.put, List.setIfInBounds_toArray, List.set_cons_zero, List.set_cons_succ, List.getElem_toArray, List.getElem_cons_zero, List.getElem_cons_succ]
  refine AnyTo.take (i := 4) (v := .slice A1 n1 c1) rfl (by kernel_rfl) (by kernel_rfl) (by kernel_rfl) (by kernel_rfl) (by kernel_rfl) (fun _ _ _ h => h) (Or.inl ⟨by rfl, ?_⟩) hS ?_
  · intro wq hq
    have dq0 := EX.out wq hq
    go_simp
  try simp only [Act.put, List.setIfInBounds_toArray, List.set_cons_zero, List.set_cons_succ, List.getElem_toArray, List.getElem_cons_zero, List.getElem_cons_succ]
  have HCa := HCd.out
  refine AnyTo.gone (i := 5) (by kernel_rfl) rfl (by rfl) (fun K hK => ?_)
  go_simp
  (with_reducible refine (K2.out _ HCa.bel HCa.hB).mono ?_)
  rintro e wc ⟨Ac, cc, rfl, hsr, hcc, hbc⟩
  have hS : SB Wd wc := SB.next (SB.refl Wd) hbc
  have HCa := HCa.next hbc
  dsimp only
  refine hK _ _ (fun _ => hS) ?_
  clear hK K
  try simp only [Act.put, List.setIfInBounds_toArray, List.set_cons_zero, List.set_cons_succ, List.getElem_toArray, List.getElem_cons_zero, List.getElem_cons_succ]
  refine AnyTo.gone (i := 6) (by kernel_rfl) rfl (by rfl) (fun K hK => ?_)
  refine wp_app (.tmp 12) (.tmp 17) rfl rfl B (.slice Axp lxp cxp) L1.length (vbs L1) rfl HCa.ob Ac m2 cc (vbs (txt y.sc)) rfl hsr hcc (by omega) HCa.hB ?_
  intro vr wa h1 h2
  obtain ⟨ca, fa, hC, Axr, lxr, cxr, rfl⟩ := CapV.app HCa h1 h2
  refine hK _ _ (fun h => absurd h (by decide)) ?_
  clear hK K
  try simp only [Act.put, List.setIfInBounds_toArray, List.set_cons_zero, List.set_cons_succ, List.getElem_toArray, List.getElem_cons_zero, List.getElem_cons_succ]
  refine AnyTo.gone (i := 7) (by kernel_rfl) rfl (by rfl) (fun K hK => ?_)
  go_simp
  refine hK _ _ (fun h => absurd h (by decide)) ?_
  clear hK K
  try simp only [Act.put, List.setIfInBounds_toArray, List.set_cons_zero, List.set_cons_succ, List.getElem_toArray, List.getElem_cons_zero, List.getElem_cons_succ]
  refine AnyTo.done (by kernel_rfl) ?_ _
  try dsimp only [Exit.then]
  generalize wa.setCell ⟨cb, 0, none⟩ (.slice Axr lxr cxr) = wr at hC ⊢
  clear ca fa h1 h2 HCa HCd EC
  have HC := Lib.hid hC
  clear hC EX hsr hcc hbc hS
  go_wp2_with fail
  go_ret
  exact ⟨rfl, _, by rw [HL0.out, show L ++ outB y = L1 ++ txt y.sc by rw [HL1.out, Hnv.out]; simp only [outB, List.append_assoc]]; exact HC.out⟩
set_option maxHeartbeats 4000000 in
theorem each_in (W : Nat → List (BitVec 8)) (A : Option Addr) (n cap b o B cb : Nat) (w0 w : World) (v : Value) (hA : 0 < n → A = some ⟨b, o, none⟩) (hn : n ≤ 1000000)
    (hK : ∀ i, i < n → ∀ wq u, CapV w0 B cb u wq (W i) → Calls Tryd.prog 70 #[.pointer (some ⟨b, o + i * 36, none⟩), .pointer (some ⟨cb, 0, none⟩)] wq (WrPost w0 B cb (W (i + 1)))) (hC : CapV w0 B cb v w (W 0)) :
    Calls Tryd.prog 69 #[.slice A n cap, .func (.func 70) #[] #[.pointer (some ⟨cb, 0, none⟩)]] w (WrPost w0 B cb (W n)) := by
  have HK := Lib.hid hK
  have HC := Lib.hid hC
  have HA := Lib.hid hA
  clear hK hC hA
  go_enter Tryd.func69, Tryd.ntmps69
  go_wp2_with fail
  go_loopw [9] (fun iv wq => ∃ (i : Nat) (u : Value), i ≤ n ∧ iv = .int .i64 (i : Int) ∧ CapV w0 B cb u wq (W i)) (fun iv _ => n - (intOf iv).toNat)
  case atStart => exact ⟨0, v, Nat.zero_le _, rfl, HC.out⟩
  case round =>
    clear HC
    obtain ⟨i, u, hi, rfl, hC⟩ := hrel
    by_cases hlt : i < n
    · have hlt' : (i : Int) < (n : Int) := by omega
      obtain rfl := HA.out (by omega)
      have K := Lib.hid (HK.out i hlt wr u hC)
      clear hC
      go_wp2_with (go_at_call 70; (with_reducible refine K.out.mono ?_); rintro e w2 ⟨rfl, u2, hC2⟩; dsimp only)
      go_roundw
      case rel => exact ⟨i + 1, u2, by omega, by go_num, hC2⟩
      case measure => simp [intOf]; omega
    · obtain rfl : i = n := by omega
      have hlt' : ¬ (i : Int) < (i : Int) := by omega
      have HC := Lib.hid hC
      clear hC
      go_wp2_with fail
      go_ret
      exact ⟨rfl, u, HC.out⟩
set_option maxHeartbeats 4000000 in
theorem each_wit (W : Nat → List (BitVec 8)) (A : Option Addr) (n cap b o B cb : Nat) (w0 w : World) (v : Value) (hA : 0 < n → A = some ⟨b, o, none⟩) (hn : n ≤ 1000000)
    (hK : ∀ i, i < n → ∀ wq u, CapV w0 B cb u wq (W i) → Calls Tryd.prog 98 #[.pointer (some ⟨b, o + i * 36, none⟩), .pointer (some ⟨cb, 0, none⟩)] wq (WrPost w0 B cb (W (i + 1)))) (hC : CapV w0 B cb v w (W 0)) :
    Calls Tryd.prog 69 #[.slice A n cap, .func (.func 98) #[] #[.pointer (some ⟨cb, 0, none⟩)]] w (WrPost w0 B cb (W n)) := by
  have HK := Lib.hid hK
  have HC := Lib.hid hC
  have HA := Lib.hid hA
  clear hK hC hA
  go_enter Tryd.func69, Tryd.ntmps69
  go_wp2_with fail
  go_loopw [9] (fun iv wq => ∃ (i : Nat) (u : Value), i ≤ n ∧ iv = .int .i64 (i : Int) ∧ CapV w0 B cb u wq (W i)) (fun iv _ => n - (intOf iv).toNat)
  case atStart => exact ⟨0, v, Nat.zero_le _, rfl, HC.out⟩
  case round =>
    clear HC
    obtain ⟨i, u, hi, rfl, hC⟩ := hrel
    by_cases hlt : i < n
    · have hlt' : (i : Int) < (n : Int) := by omega
      obtain rfl := HA.out (by omega)
      have K := Lib.hid (HK.out i hlt wr u hC)
      clear hC
      go_wp2_with (go_at_call 98; (with_reducible refine K.out.mono ?_); rintro e w2 ⟨rfl, u2, hC2⟩; dsimp only)
      go_roundw
      case rel => exact ⟨i + 1, u2, by omega, by go_num, hC2⟩
      case measure => simp [intOf]; omega
    · obtain rfl : i = n := by omega
      have hlt' : ¬ (i : Int) < (i : Int) := by omega
      have HC := Lib.hid hC
      clear hC
      go_wp2_with fail
      go_ret
      exact ⟨rfl, u, HC.out⟩
set_option maxHeartbeats 4000000 in
theorem each_out (W : Nat → List (BitVec 8)) (A : Option Addr) (n cap b o B cb : Nat) (w0 w : World) (v : Value) (hA : 0 < n → A = some ⟨b, o, none⟩) (hn : n ≤ 1000000)
    (hK : ∀ i, i < n → ∀ wq u, CapV w0 B cb u wq (W i) → Calls Tryd.prog 73 #[.pointer (some ⟨b, o + i * 2, none⟩), .pointer (some ⟨cb, 0, none⟩)] wq (WrPost w0 B cb (W (i + 1)))) (hC : CapV w0 B cb v w (W 0)) :
    Calls Tryd.prog 72 #[.slice A n cap, .func (.func 73) #[] #[.pointer (some ⟨cb, 0, none⟩)]] w (WrPost w0 B cb (W n)) := by
  have HK := Lib.hid hK
  have HC := Lib.hid hC
  have HA := Lib.hid hA
  clear hK hC hA
  go_enter Tryd.func72, Tryd.ntmps72
  go_wp2_with fail
  go_loopw [9] (fun iv wq => ∃ (i : Nat) (u : Value), i ≤ n ∧ iv = .int .i64 (i : Int) ∧ CapV w0 B cb u wq (W i)) (fun iv _ => n - (intOf iv).toNat)
  case atStart => exact ⟨0, v, Nat.zero_le _, rfl, HC.out⟩
  case round =>
    clear HC
    obtain ⟨i, u, hi, rfl, hC⟩ := hrel
    by_cases hlt : i < n
    · have hlt' : (i : Int) < (n : Int) := by omega
      obtain rfl := HA.out (by omega)
      have K := Lib.hid (HK.out i hlt wr u hC)
      clear hC
      go_wp2_with (go_at_call 73; (with_reducible refine K.out.mono ?_); rintro e w2 ⟨rfl, u2, hC2⟩; dsimp only)
      go_roundw
      case rel => exact ⟨i + 1, u2, by omega, by go_num, hC2⟩
      case measure => simp [intOf]; omega
    · obtain rfl : i = n := by omega
      have hlt' : ¬ (i : Int) < (i : Int) := by omega
      have HC := Lib.hid hC
      clear hC
      go_wp2_with fail
      go_ret
      exact ⟨rfl, u, HC.out⟩
end Go.Proofs.YtnkkhmgplpkjbaaDoor
