/- Blocks of known cells, rows of bytes, appends, and regions that draw their order: plain laws over the loaded program. What the reader's small methods return: isWidth, Torn, has, Left, End. What has, Left and End return, and what tear makes of a reader. What slices.Clone and cut return. What cut returns: what was read, and what the reader is then. What Take, Peek and Open return, and what the reader is then. Numbers as bytes, the lowest first; what Num returns, and what the reader is then. What bytes.Put returns. The compact form of a number: what first, following and Size return. What Hash and Open return, and what the reader is then. The law package's awake returns true. What the document's own Width, Digits and Put return. The law BytesPuts returns true for every input that can be read. What compact.Put and PutText return. -/
import Derived.Test.YtpamepkcbhoiaaaProg
import Derived.WalkKit
import Derived.WalkSpells
import Derived.WalkLawsBesides
import Derived.Laws.BitsAllLaws
import Derived.Laws.Shifts
import Derived.Lib.Hide
import Derived.Deep.QuietTactic
import Derived.BigQuiet
import Derived.Deep.RegionHeld3
import Derived.Deep.DeepMust
import Derived.KernelRfl
import Derived.Laws.CopyOwn
import Derived.Laws.Rows
import Derived.Deep.DeepCutAuto
import Derived.Deep.CutRange
import Derived.Laws.AppendOwnNone
import Derived.Lib.ConvBytes
import Derived.Lib.SlBytesConst
import Derived.Outline
import Derived.Laws.MakeOwn
import Derived.OwnWalk
namespace Go.Proofs.Ytpamepkcbhoiaaa
open Go.RowKit
set_option linter.unusedVariables false
set_option linter.unusedSimpArgs false
/-- Block b is a row of cells, all known, none frozen. -/
def Blk (w : World) (b : Nat) (T : TypeId) (vs : List Value) : Prop := w.heap[b]? = some (.cells vs.toArray T (0, 0))
theorem Blk.cell {w : World} {b : Nat} {T : TypeId} {vs : List Value} (h : Blk w b T vs) {j : Nat} {v : Value} (hj : vs[j]? = some v) : w.cell? ⟨b, j, none⟩ = some v := by
  unfold Blk at h; simp [World.cell?, h, hj]
theorem Blk.free {w : World} {b : Nat} {T : TypeId} {vs : List Value} (h : Blk w b T vs) (j : Nat) : w.frozen? ⟨b, j, none⟩ = false := by
  unfold Blk at h; simp [World.frozen?, h]
theorem Blk.lt {w : World} {b : Nat} {T : TypeId} {vs : List Value} (h : Blk w b T vs) : b < w.heap.size := by
  unfold Blk at h
  rcases Nat.lt_or_ge b w.heap.size with hlt | hge
  · exact hlt
  · rw [Array.getElem?_eq_none hge] at h; cases h
theorem Blk.new (w : World) (T : TypeId) (vs : Array Value) : Blk (w.alloc (.cells vs T)) w.heap.size T vs.toList := by
  unfold Blk; show (w.heap.push _)[w.heap.size]? = _; rw [Array.getElem?_push_size]
theorem Blk.alloc {w : World} {b : Nat} {T : TypeId} {vs : List Value} (h : Blk w b T vs) (o : Obj) : Blk (w.alloc o) b T vs := by
  have hl := h.lt
  unfold Blk at *; rw [Below.heap_alloc _ _ _ hl]; exact h
theorem Blk.drew {w : World} {b : Nat} {T : TypeId} {vs : List Value} (h : Blk w b T vs) : Blk w.drew b T vs := h
theorem Blk.set {w : World} {b : Nat} {T : TypeId} {vs : List Value} (h : Blk w b T vs) (j : Nat) (v : Value) : Blk (w.setCell ⟨b, j, none⟩ v) b T (vs.set j v) := by
  unfold Blk at *
  have hl := Blk.lt (w := w) (b := b) (T := T) (vs := vs) h
  simp only [World.setCell, Array.getElem?_modify, h]
  simp
theorem Blk.other {w : World} {b : Nat} {T : TypeId} {vs : List Value} (h : Blk w b T vs) {a : Addr} (ha : b ≠ a.block) (v : Value) : Blk (w.setCell a v) b T vs := by
  unfold Blk at *; rw [Below.heap_setCell _ _ _ _ ha]; exact h
theorem Blk.grown {w w' : World} {b : Nat} {T : TypeId} {vs : List Value} (h : Blk w b T vs) {row : Option Nat} (hg : w.grownBy w' row) (hr : some b ≠ row) : Blk w' b T vs := by
  have hl := h.lt
  unfold Blk at *; rw [hg.block b hl hr]; exact h
theorem Blk.below {w w' : World} {b B : Nat} {T : TypeId} {vs : List Value} (h : Blk w b T vs) (hg : Below B w w') (hr : b < B) : Blk w' b T vs := by
  unfold Blk at *; rw [hg.block b hr]; exact h
theorem cell_new {w : World} {vs : Array Value} {T : TypeId} {m : Nat × Nat} {b j : Nat} {v : Value} (hb : b = w.heap.size) (hv : vs[j]? = some v) : (w.alloc (.cells vs T m)).cell? ⟨b, j, none⟩ = some v := by
  subst hb
  show (match (w.heap.push _)[w.heap.size]? with | some (.cells c _ _) => _ | _ => _) = _
  rw [Array.getElem?_push_size]; simpa using hv
theorem cell_alloc {w : World} {a : Addr} {v : Value} (o : Obj) (h : w.cell? a = some v) : (w.alloc o).cell? a = some v := by
  rw [World.cell?_of_block (w := w) (Below.heap_alloc w o a.block (World.block_lt_of_cell? w a h))]; exact h
theorem frozen_alloc {w : World} {a : Addr} {x : Bool} (o : Obj) (hl : a.block < w.heap.size) (h : w.frozen? a = x) : (w.alloc o).frozen? a = x := by
  rw [World.frozen?_of_block (w := w) (Below.heap_alloc w o a.block hl)]; exact h
theorem cell_store_ne {w : World} {a b : Addr} {u v : Value} (hne : b ≠ a) (h : w.cell? a = some v) : (w.setCell b u).cell? a = some v := by
  rw [World.cell?_setCell_other]; · exact h
  · exact hne
theorem ret_int {k : IntKind} {a b : Int} (h : a = b) : Ending.returned (.int k a) = .returned (.int k b) := by rw [h]
/-- A byte, as the model holds it. -/
def Bt (x : BitVec 8) : Int := (x.toNat : Int)
theorem Bt_lo (x : BitVec 8) : 0 ≤ Bt x := Int.natCast_nonneg _
theorem Bt_hi (x : BitVec 8) : Bt x < 256 := by unfold Bt; have := x.isLt; omega
theorem Blk.range {w : World} {b : Nat} {T : TypeId} {vs : List Value} (h : Blk w b T vs) : w.rangeAt b 0 vs := fun j v hv => by
  rw [Nat.zero_add]; exact h.cell hv
theorem Blk.there {w : World} {b : Nat} {T : TypeId} {vs : List Value} (h : Blk w b T vs) : w.there b 0 vs.length := fun j hj => by
  rw [Nat.zero_add]
  exact ⟨by rw [h.cell (List.getElem?_eq_getElem hj)]; rfl, h.free j⟩
theorem Blk.setCells_at (b : Nat) (T : TypeId) : ∀ (us cur pre : List Value) (w : World), us.length = cur.length → Blk w b T (pre ++ cur) → Blk (w.setCells b pre.length us) b T (pre ++ us)
  | [], [], _, _, _, h => h
  | [], _ :: _, _, _, hl, _ => by simp at hl
  | _ :: _, [], _, _, hl, _ => by simp at hl
  | u :: us, c :: cur, pre, w, hl, h => by
    have h1 := h.set pre.length u
    have e : (pre ++ c :: cur).set pre.length u = (pre ++ [u]) ++ cur := by simp
    rw [e] at h1
    have h2 := Blk.setCells_at b T us cur (pre ++ [u]) _ (by simpa using hl) h1
    simpa [World.setCells] using h2
theorem Blk.setCells {w : World} {b : Nat} {T : TypeId} {vs : List Value} (h : Blk w b T vs) (us : List Value) (hl : us.length = vs.length) : Blk (w.setCells b 0 us) b T us :=
  Blk.setCells_at b T us vs [] w hl h
theorem below_setCells {B b : Nat} (hB : B ≤ b) {w0 : World} : ∀ (us : List Value) (o : Nat) (w : World), Below B w0 w → Below B w0 (w.setCells b o us)
  | [], _, _, h => h
  | u :: us, o, w, h => below_setCells hB us (o + 1) _ (h.setCell hB u)
theorem Blk.other_setCells {b' b : Nat} {T : TypeId} {vs : List Value} (hb : b ≠ b') : ∀ (us : List Value) (o : Nat) (w : World), Blk w b T vs → Blk (w.setCells b' o us) b T vs
  | [], _, _, h => h
  | u :: us, o, w, h => Blk.other_setCells hb us (o + 1) _ (h.other hb u)
theorem Blk.load {w : World} {b : Nat} {T : TypeId} {vs : List Value} (h : Blk w b T vs) {P : Program} (ty : TypeId) {d : TypeDesc} (hu : P.underlying ty = some d) (hd : d.isRow = true) {n : Nat} (hi : (P.info? ty).map (·.size) = some n) (hn : vs.length = n) :
    (Instr.loadAt ty (.pointer (some ⟨b, 0, none⟩))).run P w = .ok (.agg vs.toArray) w := run_loadAt_mid w b 0 ty vs d h.range hu hd (by rw [hn]; exact hi)
theorem Blk.store {w : World} {b : Nat} {T : TypeId} {vs : List Value} (h : Blk w b T vs) {P : Program} (ty : TypeId) (us : List Value) {n : Nat} (hi : (P.info? ty).map (·.size) = some n) (hn : vs.length = n) (hl : us.length = n) (h1 : ∀ v ∈ us, v.oneCell' = true) :
    (Instr.storeAt ty (.pointer (some ⟨b, 0, none⟩)) (.agg us.toArray)).run P w = .ok () (w.setCells b 0 us) := by
  have := run_storeAt_mid w b 0 ty us.toArray (P := P) (by rw [List.size_toArray, hl, ← hn]; exact h.there) (by rw [List.size_toArray, hl]; exact hi) (all_oneCell_toArray h1)
  simpa using this
def vbs (l : List (BitVec 8)) : List Value := l.map fun x => Value.int .u8 (Bt x)
theorem vbs_at {l : List (BitVec 8)} {j : Nat} (h : j < l.length) : (vbs l)[j]? = some (.int .u8 (Bt (l.getD j 0))) := by
  unfold vbs; simp [h]
/-- The slice with address A reads as the bytes R, and lies below block B. -/
def Rd (w : World) (B : Nat) (A : Option Addr) (R : List (BitVec 8)) : Prop :=
  0 < R.length → ∃ b o, A = some ⟨b, o, none⟩ ∧ b < B ∧ ∀ j, j < R.length → w.cell? ⟨b, o + j, none⟩ = some (.int .u8 (Bt (R.getD j 0)))
theorem Rd.keep {w w' : World} {B : Nat} {A : Option Addr} {R : List (BitVec 8)} (h : Rd w B A R) (hb : Below B w w') : Rd w' B A R := fun hp => by
  obtain ⟨b, o, e, hlt, hc⟩ := h hp
  exact ⟨b, o, e, hlt, fun j hj => by rw [hb.cell (p := ⟨b, o + j, none⟩) hlt]; exact hc j hj⟩
theorem vbs_set (l : List (BitVec 8)) (j : Nat) (x : BitVec 8) : (vbs l).set j (.int .u8 (Bt x)) = vbs (l.set j x) := by
  unfold vbs; rw [List.map_set]
theorem vbs_len (l : List (BitVec 8)) : (vbs l).length = l.length := by simp [vbs]
theorem splice_pad (n : Nat) (R : List (BitVec 8)) : splice (vbs (List.replicate n 0)) 0 (vbs R) = vbs (R ++ List.replicate (n - R.length) 0) := by
  simp [splice, vbs]
theorem vbs_one (l : List (BitVec 8)) : ∀ v ∈ vbs l, v.oneCell' = true := by
  intro v hv
  simp only [vbs, List.mem_map] at hv
  obtain ⟨x, _, rfl⟩ := hv
  rfl
theorem there_arr {w : World} {b n : Nat} {vs : List Value} (h : w.there b 0 n) (hl : vs.length = n) : w.there b 0 vs.toArray.size := by rw [List.size_toArray, hl]; exact h
theorem info_arr {x : Option Nat} {vs : List Value} (h : x = some vs.length) : x = some vs.toArray.size := by rw [List.size_toArray]; exact h
theorem Rd.keep' {w w' : World} {B B' : Nat} {A : Option Addr} {R : List (BitVec 8)} (h : Rd w B A R) (hb : Below B' w w') (hB : B ≤ B') : Rd w' B A R := fun hp => by
  obtain ⟨b, o, e, hlt, hc⟩ := h hp
  exact ⟨b, o, e, hlt, fun j hj => by rw [hb.cell (p := ⟨b, o + j, none⟩) (Nat.lt_of_lt_of_le hlt hB)]; exact hc j hj⟩
theorem Rd.up {w : World} {B B' : Nat} {A : Option Addr} {R : List (BitVec 8)} (h : Rd w B A R) (hB : B ≤ B') : Rd w B' A R := fun hp => by
  obtain ⟨b, o, e, hlt, hc⟩ := h hp
  exact ⟨b, o, e, Nat.lt_of_lt_of_le hlt hB, hc⟩
section
variable {P : Program} {ops : Array Oper} {Q : Exit → Act → World → Prop} {md : Region.Mode} {S : World → Prop}
/-- Whatever order is drawn from here on; behind each operation but number z the condition S holds. -/
def AnyBut (P : Program) (md : Region.Mode) (ops : Array Oper) (Q : Exit → Act → World → Prop) (S : World → Prop) (z : Nat) : Nat → Array Bool → Act → World → Prop
  | 0, listed, a, w => Region.ready md ops listed = [] ∧ Q .normal a w
  | n + 1, listed, a, w => (Region.ready md ops listed = [] → Q .normal a w) ∧
      ∀ i ∈ Region.ready md ops listed, wpOp P ops Q i (fun a' w' => (i ≠ z → S w') ∧ AnyBut P md ops Q S z n (listed.setIfInBounds i true) a' w') a w
theorem AnyBut.any {z : Nat} : ∀ (n : Nat) (listed : Array Bool) (a : Act) (w : World), AnyBut P md ops Q S z n listed a w → wpAny P md ops Q n listed a w
  | 0, _, _, _, h => h
  | n + 1, _, _, _, h => ⟨h.1, fun i hi => wpOp_mono (fun a' w' h' => AnyBut.any n _ a' w' h'.2) (h.2 i hi)⟩
/-- Does operation z wait for operation i? -/
def waits (md : Region.Mode) (ops : Array Oper) (z i : Nat) : Bool := match ops[z]? with
  | some o => o.after.any fun e => Region.binds md e && e.on == i
  | none => false
theorem not_ready_of_waits {z i : Nat} {listed : Array Bool} (hw : waits md ops z i = true) (hi : i ∈ Region.ready md ops listed) : z ∉ Region.ready md ops listed := by
  intro hz
  obtain ⟨_, oz, hoz, hall⟩ := mem_ready.1 hz
  unfold waits at hw
  rw [hoz] at hw
  obtain ⟨e, he, hb⟩ := Array.any_eq_true'.1 hw
  simp only [Bool.and_eq_true, beq_iff_eq] at hb
  have h1 := hall e he hb.1
  have h0 := (mem_ready.1 hi).1
  rw [hb.2] at h1
  rcases Nat.lt_or_ge i listed.size with h' | h'
  · simp [h'] at h0 h1; rw [h0] at h1; cases h1
  · simp [Array.getElem?_eq_none h'] at h1
theorem AnyBut.first {z i : Nat} {oi : Oper} {v : Value} (hi : ops[i]? = some oi) (hsel : ∀ (j : Nat) (o : Oper) cs b, ops[j]? = some o → o.op ≠ .select cs b)
    (hQ : ∀ c a w, Q (.panic c) (a.put oi.dst v) w → Q (.panic c) a w) (hz : waits md ops z i = true) :
    ∀ (n : Nat) (listed : Array Bool) (a : Act) (w : World),
      (∀ j oj, ops[j]? = some oj → j ≠ i → listed.getD j true = false → (∀ e ∈ oj.after, Region.binds md e = true → e.on ≠ i) → oi.apart ops oj = true) →
      i ∈ Region.ready md ops listed → YieldsIf P ops S oi v a → S w →
      AnyBut P md ops Q S z n (listed.setIfInBounds i true) (a.put oi.dst v) w → AnyBut P md ops Q S z (n + 1) listed a w
  | 0, listed, a, w, _, hr, hy, hS, H => by
    refine ⟨fun h => (by rw [h] at hr; cases hr), fun j hj => ?_⟩
    by_cases hji : j = i
    · subst hji; exact hy.wpOp hi hS ⟨fun _ => hS, H⟩
    · have hm := ready_mono hj hji
      rw [H.1] at hm
      cases hm
  | n + 1, listed, a, w, hfree, hr, hy, hS, H => by
    refine ⟨fun h => (by rw [h] at hr; cases hr), fun j hj => ?_⟩
    by_cases hji : j = i
    · subst hji; exact hy.wpOp hi hS ⟨fun _ => hS, H⟩
    · have hjz : j ≠ z := fun e => not_ready_of_waits hz hr (e ▸ hj)
      obtain ⟨hjun, oj, hoj, hall⟩ := mem_ready.1 hj
      have hno : ∀ e ∈ oj.after, Region.binds md e = true → e.on ≠ i := fun e he hb heq => by
        have hw : waits md ops j i = true := by
          unfold waits
          rw [hoj]
          exact Array.any_eq_true'.2 ⟨e, he, by simp [hb, heq]⟩
        exact not_ready_of_waits hw hr hj
      have h2 := wpOp_putIf hoj (hfree j oj hoj hji hjun hno) (fun cs b => hsel i oi cs b hi) (fun cs b => hsel j oj cs b hoj) hQ hy (H.2 j (ready_mono hj hji))
      refine wpOp_mono (fun a' w' h3 => ⟨h3.2.1, AnyBut.first hi hsel hQ hz n (listed.setIfInBounds j true) a' w' (fun k ok hk hki hun hne => hfree k ok hk hki ?_ hne) (ready_mono hr (Ne.symm hji)) h3.1 (h3.2.1 hjz) ?_⟩) h2
      · by_cases hjk : j = k
        · subst hjk; exact hjun
        · rwa [getD_set_ne true hjk] at hun
      · rw [Array.setIfInBounds_comm _ _ hji]
        exact h3.2.2
theorem AnyBut.take {z i : Nat} {oi : Oper} {v : Value} {n : Nat} {listed : Array Bool} {a : Act} {w : World} (hi : ops[i]? = some oi)
    (hs : Region.noSelect ops = true) (hf : Region.free md ops listed i = true) (hr : (Region.ready md ops listed).contains i = true) (hz : waits md ops z i = true)
    (hQ : ∀ c a w, Q (.panic c) (a.put oi.dst v) w → Q (.panic c) a w) (hy : YieldsIf P ops S oi v a) (hS : S w)
    (h : AnyBut P md ops Q S z n (listed.setIfInBounds i true) (a.put oi.dst v) w) : AnyBut P md ops Q S z (n + 1) listed a w :=
  AnyBut.first hi (Region.noSelect_spec hs) hQ hz n listed a w (Region.free_spec hi hf) (by simpa using hr) hy hS h
theorem AnyBut.one {z i : Nat} {o : Oper} {n : Nat} {listed : Array Bool} {a : Act} {w : World} (hr : Region.ready md ops listed = [i]) (ho : ops[i]? = some o) (hg : o.guard = none)
    (h : ∀ K : Act → World → Prop, (∀ a' w', (i ≠ z → S w') → AnyBut P md ops Q S z n (listed.setIfInBounds i true) a' w' → K a' w') → Oper.wp P o a w K Q) : AnyBut P md ops Q S z (n + 1) listed a w := by
  refine ⟨fun e => (by rw [hr] at e; cases e), fun j hj => ?_⟩
  rw [hr] at hj
  obtain rfl : j = i := by simpa using hj
  unfold wpOp
  rw [ho]
  have hw : Region.wanted o (yielded ops a.tmps) = true := by unfold Region.wanted; rw [hg]
  simp only [hw, if_true]
  exact .inl (h _ fun _ _ h1 h2 => ⟨h1, h2⟩)
theorem AnyBut.two {z i k : Nat} {o p : Oper} {n : Nat} {listed : Array Bool} {a : Act} {w : World} (hr : Region.ready md ops listed = [i, k]) (ho : ops[i]? = some o) (hg : o.guard = none) (hp : ops[k]? = some p) (hgp : p.guard = none)
    (h : ∀ K : Act → World → Prop, (∀ a' w', (i ≠ z → S w') → AnyBut P md ops Q S z n (listed.setIfInBounds i true) a' w' → K a' w') → Oper.wp P o a w K Q)
    (h2 : ∀ K : Act → World → Prop, (∀ a' w', (k ≠ z → S w') → AnyBut P md ops Q S z n (listed.setIfInBounds k true) a' w' → K a' w') → Oper.wp P p a w K Q) : AnyBut P md ops Q S z (n + 1) listed a w := by
  refine ⟨fun e => (by rw [hr] at e; cases e), fun j hj => ?_⟩
  rw [hr] at hj
  have hj' : j = i ∨ j = k := by simpa using hj
  rcases hj' with rfl | rfl
  · unfold wpOp
    rw [ho]
    have hw : Region.wanted o (yielded ops a.tmps) = true := by unfold Region.wanted; rw [hg]
    simp only [hw, if_true]
    exact .inl (h _ fun _ _ h1 h2 => ⟨h1, h2⟩)
  · unfold wpOp
    rw [hp]
    have hw : Region.wanted p (yielded ops a.tmps) = true := by unfold Region.wanted; rw [hgp]
    simp only [hw, if_true]
    exact .inl (h2 _ fun _ _ h1 h2 => ⟨h1, h2⟩)
theorem AnyBut.done {z : Nat} {listed : Array Bool} {a : Act} {w : World} (hr : Region.ready md ops listed = []) (h : Q .normal a w) : ∀ n, AnyBut P md ops Q S z n listed a w
  | 0 => ⟨hr, h⟩
  | _ + 1 => ⟨fun _ => h, by rw [hr]; simp⟩
theorem wp_region_but {id z : Nat} {a : Act} {w : World} (S : World → Prop) (hm : P.follows .mixedOrders = true)
    (h : AnyBut P .any ops Q S z ops.size (Array.replicate ops.size false) a w.drew) : (Code.region id ops true).wp P Q a w :=
  wp_region_any hm (AnyBut.any _ _ _ _ h)
end
theorem wp_calm {P : Program} {c : Code} {K : Act → World → Prop} {Q' : Exit → Act → World → Prop} {a : Act} {w : World}
    (h : c.wp P (Exit.then K fun _ _ _ => False) a w) : c.wp P (Exit.then K Q') a w :=
  Code.wp_mono (fun e a w q => by cases e <;> first | exact q | exact q.elim) h
theorem AnyBut.gone {P : Program} {ops : Array Oper} {Q : Exit → Act → World → Prop} {md : Region.Mode} {S : World → Prop} {z i : Nat} {o : Oper} {n : Nat} {listed : Array Bool} {a : Act} {w : World} (hr : Region.ready md ops listed = [i]) (ho : ops[i]? = some o) (hw : Region.wanted o (yielded ops a.tmps) = true)
    (h : ∀ K : Act → World → Prop, (∀ a' w', (i ≠ z → S w') → AnyBut P md ops Q S z n (listed.setIfInBounds i true) a' w' → K a' w') → Oper.wp P o a w K Q) : AnyBut P md ops Q S z (n + 1) listed a w := by
  refine ⟨fun e => (by rw [hr] at e; cases e), fun j hj => ?_⟩
  rw [hr] at hj
  obtain rfl : j = i := by simpa using hj
  unfold wpOp
  rw [ho]
  simp only [hw, if_true]
  exact .inl (h _ fun _ _ h1 h2 => ⟨h1, h2⟩)
/-- What is appended: the cells at A, or nothing. -/
def Src22 (w : World) (A : Option Addr) (m : Nat) (news : List Value) : Prop :=
  news.length = m ∧ (0 < m → ∃ ad, A = some ad ∧ ∀ j u, news[j]? = some u → w.cell? (ad.add j) = some u) ∧ (∀ u ∈ news, u.oneCell' = true)
theorem info5 : (Try.prog.info? 5).map (fun i => (i.zero, i.size, i.bytes)) = some (some (.int .u8 0), 1, 1) := by kernel_rfl
theorem run_app {w : World} {base : Nat} {v : Value} {n : Nat} {xs : List Value} (hown : w.ownsRow base 5 1 v n xs) {A : Option Addr} {m c : Nat} {news : List Value} (hs : Src22 w A m news) (hc : A = none → c = 0) (hb : n + m ≤ 140737488355328) (hbase : base ≤ w.heap.size) :
    ∃ v' w', (Builtin.append_ #[22, 22] 22 #[v, .slice A m c]).run Try.prog w = .ok v' w' ∧ w'.ownsRow base 5 1 v' (n + m) (xs ++ news) ∧ w.grownBy w' v.ownBlock := by
  obtain ⟨i0, hi, hz0, hz1, hz2⟩ := info_parts info5
  obtain ⟨h1, h2, h3⟩ := hs
  cases A with
  | some ad =>
    have hnews : ∀ j u, news[j]? = some u → w.cell? (ad.add j) = some u := fun j u hj => by
      have hl := (List.getElem?_eq_some_iff.1 hj).1
      obtain ⟨ad', e, hc⟩ := h2 (by omega)
      cases e
      exact hc j u hj
    obtain ⟨v', w', hr, ho, hg, _⟩ := run_append_own (P := Try.prog) w base 22 22 5 i0 (.int .u8 0) 1 1 Try.underlying22 hi hz0 hz1 hz2 rfl (by omega) v n xs hown ad m c news (by omega) hnews h3 (by unfold maxLen; omega) (by omega) hbase
    exact ⟨v', w', hr, ho, hg⟩
  | none =>
    have hm : m = 0 := Nat.eq_zero_of_not_pos fun hp => by obtain ⟨ad, e, _⟩ := h2 hp; cases e
    have hc0 := hc rfl
    subst hm hc0
    have : news = [] := List.eq_nil_of_length_eq_zero h1
    subst this
    exact ⟨v, w, run_append_owned_none (P := Try.prog) (w := w) base 22 22 5 i0 1 Try.underlying22 hi v n xs hown, by simpa using hown, ⟨rfl, rfl, rfl, Nat.le_refl _, fun _ _ _ => rfl⟩⟩
theorem wp_app {w : World} {o : Oper} {a : Act} {K : Act → World → Prop} {Q : Exit → Act → World → Prop} (s x : Operand) (ho : o.op = .call { callee := .builtin .append, args := #[s, x], argTypes := #[22, 22] }) (hty : o.type = 22)
    (base : Nat) (v : Value) (n : Nat) (xs : List Value) (hs : a.eval s = v) (hown : w.ownsRow base 5 1 v n xs) (A : Option Addr) (m c : Nat) (news : List Value) (hx : a.eval x = .slice A m c) (hsr : Src22 w A m news) (hc : A = none → c = 0) (hb : n + m ≤ 140737488355328) (hbase : base ≤ w.heap.size)
    (h : ∀ v' w', w'.ownsRow base 5 1 v' (n + m) (xs ++ news) → w.grownBy w' v.ownBlock → K (a.put o.dst v') w') : o.wp Try.prog a w K Q := by
  obtain ⟨v', w', hr, h2, h3⟩ := run_app hown hsr hc hb hbase
  rw [← hty] at hr
  unfold Oper.wp execOp
  simp only [ho, resolve, invoke, builtin, Sem.run_bind, Sem.run_pure, Result.andThen_ok, List.map_toArray, List.map_cons, List.map_nil, hs, hx]
  rw [hty] at hr ⊢
  simp only [hr]
  exact h v' w' h2 h3
theorem owns_empty (w : World) (base : Nat) (hb : base ≤ w.heap.size) : (w.alloc (.cells #[] 5)).ownsRow base 5 1 (.slice (some ⟨w.heap.size, 0, none⟩) 0 0) 0 [] :=
  World.ownsRow_made w #[] 0 hb (by unfold maxLen; omega) rfl
theorem src_of_blk {w : World} {b T : Nat} {R : List (BitVec 8)} (h : Blk w b T (vbs R)) : Src22 w (some ⟨b, 0, none⟩) R.length (vbs R) :=
  ⟨vbs_len R, fun _ => ⟨⟨b, 0, none⟩, rfl, fun j u hj => by rw [Addr.add_mid, Nat.zero_add]; exact h.cell hj⟩, vbs_one R⟩
theorem src_of_rd {w : World} {B : Nat} {A : Option Addr} {R : List (BitVec 8)} (h : Rd w B A R) : Src22 w A R.length (vbs R) :=
  ⟨vbs_len R, fun hp => by
    obtain ⟨b, o, e, hlt, hc⟩ := h hp
    refine ⟨⟨b, o, none⟩, e, fun j u hj => ?_⟩
    have hl := (List.getElem?_eq_some_iff.1 hj).1
    rw [vbs_len] at hl
    rw [vbs_at hl] at hj
    rw [Addr.add_mid, hc j hl]; exact hj, vbs_one R⟩
/-- A row of the call's own, read as bytes. -/
theorem rd_of_owns {w : World} {base : Nat} {v : Value} {R : List (BitVec 8)} (h : w.ownsRow base 5 1 v R.length (vbs R)) : ∃ A cap, v = .slice A R.length cap ∧ Rd w w.heap.size A R ∧ R.length ≤ cap ∧ cap ≤ 9223372036854775807 ∧ (A = none → cap = 0) := by
  rcases h.2 with ⟨rfl, h0⟩ | ⟨g, cap, cur, rfl, hb, hg, hn, hm, hcs, ht⟩
  · exact ⟨none, 0, by rw [h0], fun hp => by omega, by omega, by omega, fun _ => rfl⟩
  · refine ⟨_, cap, rfl, fun hp => ⟨g, 0, rfl, (Array.getElem?_eq_some_iff.1 hg).1, fun j hj => ?_⟩, hn, by unfold maxLen at hm; omega, fun h => by cases h⟩
    have h1 := h.cells (g := g) rfl j (.int .u8 (Bt (R.getD j 0))) (vbs_at hj)
    rwa [Addr.add_mid] at h1
/-- The string of some bytes. -/
def strB (L : List (BitVec 8)) : ByteArray := (L.map Bt).foldl (fun r n => r.push (UInt8.ofNat n.toNat)) ByteArray.empty
theorem wpList_app {w : World} {ops : Array Oper} {rest : List Oper} {o : Oper} {a : Act} {Q : Exit → Act → World → Prop} (hgd : o.guard = none) (s x : Operand) (ho : o.op = .call { callee := .builtin .append, args := #[s, x], argTypes := #[22, 22] }) (hty : o.type = 22)
    (base : Nat) (v : Value) (n : Nat) (xs : List Value) (hs : a.eval s = v) (hown : w.ownsRow base 5 1 v n xs) (A : Option Addr) (m c : Nat) (news : List Value) (hx : a.eval x = .slice A m c) (hsr : Src22 w A m news) (hc : A = none → c = 0) (hb : n + m ≤ 140737488355328) (hbase : base ≤ w.heap.size)
    (h : ∀ v' w', w'.ownsRow base 5 1 v' (n + m) (xs ++ news) → w.grownBy w' v.ownBlock → wpList Try.prog ops Q rest (a.put o.dst v') w') : wpList Try.prog ops Q (o :: rest) a w :=
  wpList_plain hgd fun _ hK => wp_app s x ho hty base v n xs hs hown A m c news hx hsr hc hb hbase fun v' w' h2 h3 => hK _ _ (h v' w' h2 h3)
/-- The call's own row v holds the bytes L. -/
def OB (w : World) (B : Nat) (v : Value) (L : List (BitVec 8)) : Prop := w.ownsRow B 5 1 v L.length (vbs L)
theorem OB.nil (w : World) (B : Nat) : OB w B (.slice none 0 0) [] := World.ownsRow_nil w B 5 1
theorem OB.below {w w' : World} {B B' : Nat} {v : Value} {L : List (BitVec 8)} (h : OB w B v L) (hb : Below w.heap.size w w') : OB w' B v L := by
  refine ⟨h.1, ?_⟩
  rcases h.2 with hn | ⟨g, cap, cur, rfl, hbb, hgg, rest⟩
  · exact .inl hn
  · exact .inr ⟨g, cap, cur, rfl, hbb, by rw [hb.block g (Array.getElem?_eq_some_iff.1 hgg).1]; exact hgg, rest⟩
theorem OB.alloc {w : World} {B : Nat} {v : Value} {L : List (BitVec 8)} (h : OB w B v L) (o : Obj) : OB (w.alloc o) B v L := World.ownsRow.alloc h o
theorem OB.drew {w : World} {B : Nat} {v : Value} {L : List (BitVec 8)} (h : OB w B v L) : OB w.drew B v L := h
theorem OB.rd {w : World} {B : Nat} {v : Value} {L : List (BitVec 8)} (h : OB w B v L) : ∃ A cap, v = .slice A L.length cap ∧ Rd w w.heap.size A L ∧ L.length ≤ cap ∧ cap ≤ 9223372036854775807 ∧ (A = none → cap = 0) := rd_of_owns h
/-- Behind an append. -/
theorem OB.app {w0 w w' : World} {B B' : Nat} {v v' : Value} {L M : List (BitVec 8)} (h : OB w B v L) (hb : Below B' w0 w) (hB : B ≤ w.heap.size) (hBB : B' ≤ B) (h2 : w'.ownsRow B 5 1 v' (L.length + M.length) (vbs L ++ vbs M)) (h3 : w.grownBy w' v.ownBlock) : OB w' B v' (L ++ M) ∧ Below B' w0 w' := by
  refine ⟨?_, hb.grown h3 (Nat.le_trans hBB hB) (fun k hk => Nat.le_trans hBB (World.ownsRow.lt h k hk).1)⟩
  unfold OB
  rw [List.length_append, show vbs (L ++ M) = vbs L ++ vbs M by simp [vbs]]
  exact h2
theorem wpList_push {w : World} {ops : Array Oper} {rest : List Oper} {o : Oper} {a : Act} {Q : Exit → Act → World → Prop} (hgd : o.guard = none) (s x : Operand) (ho : o.op = .call { callee := .builtin .append, args := #[s, x], argTypes := #[22, 22] }) (hty : o.type = 22)
    (B : Nat) (v : Value) (L M : List (BitVec 8)) (hs : a.eval s = v) (hown : OB w B v L) (A : Option Addr) (m c : Nat) (hx : a.eval x = .slice A m c) (hm : m = M.length) (hsr : Src22 w A M.length (vbs M)) (hc : A = none → c = 0) (hb : L.length + M.length ≤ 140737488355328) {w0 : World} {B' : Nat} (hbel : Below B' w0 w) (hB : B ≤ w.heap.size) (hBB : B' ≤ B)
    (h : ∀ v' w', OB w' B v' (L ++ M) → Below B' w0 w' → Below B w w' → wpList Try.prog ops Q rest (a.put o.dst v') w') : wpList Try.prog ops Q (o :: rest) a w := by
  subst hm
  exact wpList_app hgd s x ho hty B v L.length (vbs L) hs hown A M.length c (vbs M) hx hsr hc hb hB fun v' w' h2 h3 => by
    have hA := OB.app hown hbel hB hBB h2 h3
    exact h v' w' hA.1 hA.2 ((Below.refl B w).grown h3 hB (fun k hk => (World.ownsRow.lt hown k hk).1))
theorem one_len (x : BitVec 8) : 1 = [x].length := rfl
theorem src_one (w : World) (x : BitVec 8) : Src22 (w.alloc (.cells #[.int .u8 (Bt x)] 5)) (some ⟨w.heap.size, 0, none⟩) 1 (vbs [x]) :=
  src_of_blk (Blk.new w 5 #[.int .u8 (Bt x)])
theorem run_conv_slice {P : Program} (w : World) (hu22 : P.underlying 22 = some (.slice 5)) (hu5 : P.underlying 5 = some (.int .u8)) (hu9 : P.underlying 9 = some .string) (A : Option Addr) (L : List (BitVec 8)) (n c : Nat) (hn : n = L.length) (B : Nat) (h : Rd w B A L) : (convert 22 9 (.slice A n c)).run P w = .ok (.string (strB L)) w := by
  subst hn
  cases L with
  | nil =>
    cases A with
    | none => rw [run_convert_bytes_string w 22 9 5 _ _ _ hu22 hu5 hu9]; rfl
    | some a =>
      rw [run_convert_bytes_string w 22 9 5 _ _ _ hu22 hu5 hu9]
      exact run_bytesToString w a 0 c [] rfl
  | cons x L =>
    obtain ⟨b, o, rfl, hlt, hc⟩ := h (by simp)
    rw [run_convert_bytes_string w 22 9 5 _ _ _ hu22 hu5 hu9]
    have hl : (loadCells ⟨b, o, none⟩ (x :: L).length).run P w = .ok (((x :: L).map Bt).map (Value.int .u8)).toArray w := by
      have := run_loadCells_list (P := P) w ⟨b, o, none⟩ (vbs (x :: L)) (fun j v hv => by
        have hl := (List.getElem?_eq_some_iff.1 hv).1
        rw [vbs_len] at hl
        rw [vbs_at hl] at hv
        rw [Addr.add_mid, hc j hl]; exact hv)
      rw [vbs_len] at this
      rw [this]
      simp [vbs]
    exact run_bytesToString w ⟨b, o, none⟩ _ _ ((x :: L).map Bt) hl
def bytesOf (s : ByteArray) : List (BitVec 8) := s.data.toList.map UInt8.toBitVec
theorem bytesOf_len (s : ByteArray) : (bytesOf s).length = s.size := by
  show (s.data.toList.map UInt8.toBitVec).length = s.data.size
  rw [List.length_map, Array.length_toList]
theorem grown_ge (w : World) (n m : Nat) (e : TypeId) : n ≤ grownCap w n m e := by
  unfold grownCap
  simp only [Question.cut]
  omega
theorem conv_str (s : ByteArray) (w : World) : ∃ w1 c, (convert 9 22 (.string s)).run Try.prog w = .ok (.slice (some ⟨w.heap.size, 0, none⟩) (bytesOf s).length c) w1 ∧ Below w.heap.size w w1 ∧
    Rd w1 w1.heap.size (some ⟨w.heap.size, 0, none⟩) (bytesOf s) ∧ (bytesOf s).length ≤ c := by
  refine ⟨Lib.bytesWorld w 5 s, grownCap w s.size 0 5, ?_, ?_, ?_, ?_⟩
  · rw [bytesOf_len]; exact Lib.run_convert_string_bytes w 9 22 5 s Try.underlying9 Try.underlying22 Try.underlying5
  · exact ⟨rfl, rfl, rfl, by rw [Lib.bytesWorld_size]; omega, fun k hk => Lib.bytesWorld_at_old w 5 s k hk⟩
  · intro hp
    refine ⟨w.heap.size, 0, rfl, by rw [Lib.bytesWorld_size]; omega, fun j hj => ?_⟩
    rw [Nat.zero_add, Lib.bytesWorld_cell w 5 s j (by rwa [bytesOf_len] at hj)]
    have hj2 : j < s.data.toList.length := by rw [bytesOf_len] at hj; rw [Array.length_toList]; exact hj
    simp [bytesOf, Bt, List.getD, hj2]
  · rw [bytesOf_len]; exact grown_ge _ _ _ _
/-- A slice of bytes that came in: nil, or a row of cells. -/
def IsRow (w : World) (a : Option Addr) (len cap : Nat) (zs : List Int) : Prop :=
  (a = none ∧ len = 0 ∧ cap = 0 ∧ zs = []) ∨
  ∃ x, a = some x ∧ len ≤ cap ∧ cap ≤ maxLen ∧ zs.length = cap ∧ (∀ i, i < zs.length → w.cell? (x.add i) = some (.int .u8 (zs.getD i 0))) ∧ ∀ n ∈ zs, (Lit.int .u8 n).wf = true
theorem byte_of {z : Int} (h : (Lit.int .u8 z).wf = true) : Bt (BitVec.ofInt 8 z) = z := by
  have hb : 0 ≤ z ∧ z ≤ 255 := by
    have := h
    simp [Lit.wf, IntKind.min, IntKind.max, IntKind.signed, IntKind.bits] at this
    omega
  unfold Bt
  rw [BitVec.toNat_ofInt]
  omega
theorem rd_of_row {w : World} {a : Option Addr} {len cap : Nat} {zs : List Int} (h : IsRow w a len cap zs) : ∃ R : List (BitVec 8), R.length = len ∧ Rd w w.heap.size a R ∧ len ≤ cap ∧ cap ≤ 9223372036854775807 := by
  rcases h with ⟨rfl, rfl, rfl, rfl⟩ | ⟨x, rfl, hl, hm, hz, hc, hw⟩
  · exact ⟨[], rfl, fun h => by simp at h, Nat.le_refl _, by omega⟩
  · unfold maxLen at hm
    refine ⟨(zs.take len).map (BitVec.ofInt 8), by simp; omega, fun hp => ?_, hl, by omega⟩
    have hp' : 0 < len := by simp at hp; omega
    have h0 := hc 0 (by omega)
    obtain ⟨b, o, sp⟩ := x
    have hsp : sp = none := by
      cases sp with
      | none => rfl
      | some q =>
        exfalso
        have e : (⟨b, o, some q⟩ : Addr).add 0 = ⟨b, o, some q⟩ := by unfold Addr.add; simp
        rw [e] at h0
        unfold World.cell? at h0
        revert h0
        cases w.heap[b]? with
        | none => simp
        | some ob => cases ob <;> simp
    subst hsp
    refine ⟨b, o, rfl, ?_, fun j hj => ?_⟩
    · have e : (⟨b, o, none⟩ : Addr).add 0 = ⟨b, o + 0, none⟩ := Addr.add_mid b o 0
      rw [e] at h0
      exact World.block_lt_of_cell? w _ h0
    · have hj' : j < len := by simp at hj; omega
      have hjz : j < zs.length := by omega
      have h1 := hc j hjz
      rw [Addr.add_mid] at h1
      rw [h1]
      have hz2 : zs.getD j 0 = zs[j] := by simp [List.getD, hjz]
      have hw2 := byte_of (hw zs[j] (List.getElem_mem hjz))
      rw [hz2]
      simp [List.getD, List.getElem?_take, hj', hjz, hw2]
theorem rd_grown {w w' : World} {row : Option Nat} {B : Nat} {A : Option Addr} {R : List (BitVec 8)} (h : Rd w B A R) (hg : w.grownBy w' row) (hne : ∀ a : Addr, A = some a → some a.block ≠ row) : Rd w' w'.heap.size A R := fun hp => by
  obtain ⟨b, o, e, hlt, hc⟩ := h hp
  have h0 := hc 0 hp
  have hl := World.block_lt_of_cell? w _ h0
  exact ⟨b, o, e, Nat.lt_of_lt_of_le hl hg.size, fun j hj => hg.cell (hc j hj) (by show some b ≠ row; exact hne ⟨b, o, none⟩ e)⟩
open Go.RowKit
set_option maxRecDepth 100000
set_option linter.unusedVariables false
set_option linter.unusedSimpArgs false
/-- The slice at A reads as the bytes L, in a block of bytes that lies below B. -/
def Own5 (w : World) (B : Nat) (A : Option Addr) (L : List (BitVec 8)) : Prop :=
  0 < L.length → ∃ b o cur, A = some ⟨b, o, none⟩ ∧ b < B ∧ w.heap[b]? = some (.cells cur 5 (0, 0)) ∧ ∀ j, j < L.length → cur[o + j]? = some (.int .u8 (Bt (L.getD j 0)))
/-- The reader at p has the bytes L left, or is torn. -/
def IsR (w : World) (B : Nat) (p : Option Nat) : Option (List (BitVec 8)) → Prop
  | none => ∀ g, p = some g → g < B ∧ Blk w g 78 [.slice none 0 0, .bool false]
  | some L => ∃ g A cap, p = some g ∧ g < B ∧ Blk w g 78 [.slice A L.length cap, .bool true] ∧ Own5 w B A L ∧ L.length ≤ cap ∧ cap ≤ 9223372036854775807 ∧ (A = none → cap = 0)
def isW (n : Int) : Bool := decide (n = 1 ∨ n = 2 ∨ n = 4 ∨ n = 8)
def hasB (s : Option (List (BitVec 8))) (n : Int) : Bool := match s with
  | none => false
  | some L => decide (0 ≤ n ∧ n ≤ L.length)
theorem isWidth_any (n : Int) (w : World) : Calls Try.prog 58 #[.int .i64 n] w fun e w' => e = .returned (.bool (isW n)) ∧ w = w' := by
  by_cases h1 : n = 1
  · subst h1
    go_enter Try.func58, Try.ntmps58
    go_wp2
    go_ret
    exact ⟨rfl, rfl⟩
  · by_cases h2 : n = 2
    · subst h2
      go_enter Try.func58, Try.ntmps58
      go_wp2
      go_ret
      exact ⟨rfl, rfl⟩
    · by_cases h4 : n = 4
      · subst h4
        go_enter Try.func58, Try.ntmps58
        go_wp2
        go_ret
        exact ⟨rfl, rfl⟩
      · by_cases h8 : n = 8
        · subst h8
          go_enter Try.func58, Try.ntmps58
          go_wp2
          go_ret
          exact ⟨rfl, rfl⟩
        · have e : isW n = false := by unfold isW; simp [h1, h2, h4, h8]
          rw [e]
          go_enter Try.func58, Try.ntmps58
          go_wp2
          go_ret
          exact ⟨rfl, rfl⟩
theorem torn_nil (w : World) : Calls Try.prog 37 #[.pointer none] w fun e w' => e = .returned (.bool true) ∧ w = w' := by
  go_enter Try.func37, Try.ntmps37
  go_wp2
  go_ret
  exact ⟨rfl, rfl⟩
theorem torn_at (g : Nat) (b : Bool) (v : Value) (w : World) (hb : Blk w g 78 [v, .bool b]) : Calls Try.prog 37 #[.pointer (some ⟨g, 0, none⟩)] w fun e w' => e = .returned (.bool (!b)) ∧ w = w' := by
  have c1 := hb.cell (j := 1) (v := .bool b) rfl
  go_enter Try.func37, Try.ntmps37
  go_wp2
  go_ret
  exact ⟨rfl, rfl⟩
def ptr (p : Option Nat) : Value := .pointer (p.map fun g => ⟨g, 0, none⟩)
theorem torn_any (p : Option Nat) (s : Option (List (BitVec 8))) (B : Nat) (w : World) (h : IsR w B p s) : Calls Try.prog 37 #[ptr p] w fun e w' => e = .returned (.bool s.isNone) ∧ w = w' := by
  cases s with
  | none =>
    cases p with
    | none => exact torn_nil w
    | some g => exact torn_at g false _ w (h g rfl).2
  | some L =>
    obtain ⟨g, A, cap, rfl, _, hb, _⟩ := h
    exact torn_at g true _ w hb
open Go.RowKit
set_option maxRecDepth 100000
set_option linter.unusedVariables false
set_option linter.unusedSimpArgs false
theorem ptr_some (g : Nat) : ptr (some g) = .pointer (some ⟨g, 0, none⟩) := rfl
theorem has_any (p : Option Nat) (s : Option (List (BitVec 8))) (n : Int) (B : Nat) (w : World) (h : IsR w B p s) : Calls Try.prog 60 #[ptr p, .int .i64 n] w fun e w' => e = .returned (.bool (hasB s n)) ∧ w = w' := by
  have HT := Lib.hid (torn_any p s B w h)
  cases s with
  | none =>
    have HB : hasB none n = false := rfl
    rw [HB]
    obtain ⟨q, hq⟩ : ∃ q, q = ptr p := ⟨_, rfl⟩
    rw [← hq] at HT ⊢
    clear h hq HB
    go_enter Try.func60, Try.ntmps60
    go_wp2_with (go_at_call 37; (with_reducible refine HT.out.mono ?_); rintro e w' ⟨rfl, rfl⟩; dsimp only [Option.isNone])
    go_ret
    exact ⟨rfl, rfl⟩
  | some L =>
    obtain ⟨g, A, cap, rfl, _, hb, _, hl, hm, _⟩ := h
    rw [ptr_some] at HT ⊢
    have c0 := hb.cell (j := 0) (v := .slice A L.length cap) rfl
    by_cases h0 : 0 ≤ n
    · by_cases h1 : n ≤ L.length
      · have e : hasB (some L) n = true := by simp [hasB, h0, h1]
        rw [e]
        clear e hb hl hm
        go_enter Try.func60, Try.ntmps60
        go_wp2_with (go_at_call 37; (with_reducible refine HT.out.mono ?_); rintro e w' ⟨rfl, rfl⟩; dsimp only [Option.isNone])
        go_ret
        exact ⟨rfl, rfl⟩
      · have e : hasB (some L) n = false := by simp [hasB, h0, h1]
        rw [e]
        clear e hb hl hm
        have h2 : (L.length : Int) < n := by omega
        go_enter Try.func60, Try.ntmps60
        go_wp2_with (go_at_call 37; (with_reducible refine HT.out.mono ?_); rintro e w' ⟨rfl, rfl⟩; dsimp only [Option.isNone])
        go_ret
        exact ⟨rfl, rfl⟩
    · have e : hasB (some L) n = false := by simp [hasB, h0]
      rw [e]
      clear e hb hl hm
      have h2 : n < 0 := by omega
      go_enter Try.func60, Try.ntmps60
      go_wp2_with (go_at_call 37; (with_reducible refine HT.out.mono ?_); rintro e w' ⟨rfl, rfl⟩; dsimp only [Option.isNone])
      go_ret
      exact ⟨rfl, rfl⟩
def leftS (s : Option (List (BitVec 8))) : Nat := match s with
  | none => 0
  | some L => L.length
def endS (s : Option (List (BitVec 8))) : Bool := match s with
  | none => false
  | some L => L.isEmpty
theorem IsR.torn {w : World} {B g : Nat} (hg : g < B) (h : Blk w g 78 [.slice none 0 0, .bool false]) : IsR w B (some g) none := fun g' e => by cases e; exact ⟨hg, h⟩
theorem info47 : (Try.prog.info? 78).map (·.size) = some 2 := by kernel_rfl
theorem grown_setCells {w : World} {g : Nat} : ∀ (us : List Value) (o : Nat) (w' : World), w.grownBy w' (some g) → w.grownBy (w'.setCells g o us) (some g)
  | [], _, _, h => h
  | u :: us, o, w', h => grown_setCells us (o + 1) _ ⟨h.os, h.tape, h.output, by simpa [World.setCell] using h.size, fun k hk hne => (Below.heap_setCell _ _ _ _ (fun e => hne (by rw [e]))).trans (h.block k hk hne)⟩
theorem grown_refl (w : World) (r : Option Nat) : w.grownBy w r := ⟨rfl, rfl, rfl, Nat.le_refl _, fun _ _ _ => rfl⟩
theorem tear_any (p : Option Nat) (s : Option (List (BitVec 8))) (B : Nat) (w : World) (h : IsR w B p s) : Calls Try.prog 59 #[ptr p] w fun e w' => e = .returned (.tuple #[]) ∧ IsR w' B p none ∧ w.grownBy w' p := by
  have HT := Lib.hid (torn_any p s B w h)
  cases s with
  | none =>
    have HI := Lib.hid h
    obtain ⟨q, hq⟩ : ∃ q, q = ptr p := ⟨_, rfl⟩
    rw [← hq] at HT ⊢
    clear h hq
    go_enter Try.func59, Try.ntmps59
    go_wp2_with (go_at_call 37; (with_reducible refine HT.out.mono ?_); rintro e w' ⟨rfl, rfl⟩; dsimp only [Option.isNone])
    go_end0
    exact ⟨rfl, HI.out, grown_refl _ _⟩
  | some L =>
    obtain ⟨g, A, cap, rfl, hg, hb, _, hl, hm, _⟩ := h
    rw [ptr_some] at HT ⊢
    have HB := Lib.hid hb
    have c0 := hb.cell (j := 0) (v := .slice A L.length cap) rfl
    have c1 := hb.cell (j := 1) (v := .bool true) rfl
    have f0 := hb.free 0
    have f1 := hb.free 1
    clear hb hl hm
    go_enter Try.func59, Try.ntmps59
    go_wp2_with (go_at_call 37; (with_reducible refine HT.out.mono ?_); rintro e w' ⟨rfl, rfl⟩; dsimp only [Option.isNone])
    go_end0
    exact ⟨rfl, IsR.torn hg ((HB.out.set 0 _).set 1 _), grown_setCells [.slice none 0 0, .bool false] 0 _ (grown_refl _ _)⟩
open Go.RowKit
set_option maxRecDepth 100000
set_option linter.unusedVariables false
set_option linter.unusedSimpArgs false
theorem clone_any (A : Option Addr) (L : List (BitVec 8)) (cap B : Nat) (w : World) (hR : Rd w B A L) (hB : B ≤ w.heap.size) (hc : A = none → cap = 0) (hl : L.length ≤ 140737488355328) :
    Calls Try.prog 31 #[.slice A L.length cap] w fun e w' => ∃ v, e = .returned v ∧ OB w' w.heap.size v L ∧ Below w.heap.size w w' := by
  cases A with
  | none =>
    have hL : L = [] := by
      cases L with
      | nil => rfl
      | cons x r => obtain ⟨b, o, e, _⟩ := hR (by simp); cases e
    subst hL
    obtain rfl := hc rfl
    show Calls Try.prog 31 #[.slice none 0 0] w _
    have hq := Lib.run_eql_slice_nil (P := Try.prog)
    go_enter Try.func31, Try.ntmps31
    go_wp2
    go_ret
    exact ⟨_, rfl, OB.nil _ _, Below.refl _ _⟩
  | some a =>
    have hq := Lib.run_eql_slice_nil (P := Try.prog)
    have HO := Lib.hid (show OB (w.alloc (Obj.cells #[] 5)) w.heap.size (.slice (some ⟨w.heap.size, 0, none⟩) 0 0) [] from owns_empty w w.heap.size (Nat.le_refl _))
    have hb0 : Below w.heap.size w (w.alloc (Obj.cells #[] 5)) := (Below.refl _ _).alloc (Nat.le_refl _) _
    have HS := Lib.hid (src_of_rd (hR.keep (hb0.mono hB)))
    have HL : Hid (([] : List (BitVec 8)).length + L.length ≤ 140737488355328) := by show ([] : List (BitVec 8)).length + L.length ≤ _; simp; omega
    have HB := Lib.hid (show w.heap.size ≤ (w.alloc (Obj.cells #[] 5)).heap.size by simp)
    have HB0 := Lib.hid hb0
    clear hR hc hl hb0 hB
    go_enter Try.func31, Try.ntmps31
    go_wp2_with (refine wpList_push (o := ⟨some 7, _, _, _, _, _⟩) rfl (.tmp 5) (.tmp 6) rfl rfl w.heap.size _ [] L rfl HO.out (some a) L.length cap rfl rfl HS.out (fun h => by cases h) HL.out HB0.out HB.out (Nat.le_refl _) ?_; intro v3 w3 ho3 hb3 hb3')
    go_ret
    exact ⟨_, rfl, ho3, hb3⟩
open Go.RowKit
set_option maxRecDepth 100000
set_option linter.unusedVariables false
set_option linter.unusedSimpArgs false
theorem Own5.rd {w : World} {B : Nat} {A : Option Addr} {L : List (BitVec 8)} (h : Own5 w B A L) : Rd w B A L := fun hp => by
  obtain ⟨b, o, cur, e, hb, hh, hc⟩ := h hp
  refine ⟨b, o, e, hb, fun j hj => ?_⟩
  rw [← hc j hj]
  simp [World.cell?, hh]
theorem Own5.take {w : World} {B : Nat} {A : Option Addr} {L : List (BitVec 8)} (h : Own5 w B A L) (n : Nat) (hn : n ≤ L.length) : Own5 w B A (L.take n) := fun hp => by
  rw [List.length_take] at hp
  obtain ⟨b, o, cur, e, hb, hh, hc⟩ := h (by omega)
  refine ⟨b, o, cur, e, hb, hh, fun j hj => ?_⟩
  rw [List.length_take] at hj
  rw [hc j (by omega)]
  simp [List.getD, List.getElem?_take, show j < n by omega]
theorem Own5.drop {w : World} {B : Nat} {A : Option Addr} {L : List (BitVec 8)} {cap : Nat} (h : Own5 w B A L) (n : Nat) (hl : L.length ≤ cap) : Own5 w B (if cap = n then A else A.map (·.add n)) (L.drop n) := fun hp => by
  rw [List.length_drop] at hp
  obtain ⟨b, o, cur, rfl, hb, hh, hc⟩ := h (by omega)
  rw [if_neg (by omega)]
  refine ⟨b, o + n, cur, by simp [Addr.add_mid], hb, hh, fun j hj => ?_⟩
  rw [List.length_drop] at hj
  rw [Nat.add_assoc, hc (n + j) (by omega)]
  simp [List.getD]
theorem Own5.heap {w w' : World} {B : Nat} {A : Option Addr} {L : List (BitVec 8)} (h : Own5 w B A L) (hk : ∀ b cur, b < B → w.heap[b]? = some (.cells cur 5 (0, 0)) → w'.heap[b]? = w.heap[b]?) : Own5 w' B A L := fun hp => by
  obtain ⟨b, o, cur, e, hb, hh, hc⟩ := h hp
  exact ⟨b, o, cur, e, hb, by rw [hk b cur hb hh]; exact hh, hc⟩
theorem Own5.store {w : World} {B g : Nat} {A : Option Addr} {L : List (BitVec 8)} {T : Nat} {vs : List Value} (h : Own5 w B A L) (hg : Blk w g T vs) (hT : T ≠ 5) (o : Nat) (v : Value) : Own5 (w.setCell ⟨g, o, none⟩ v) B A L :=
  h.heap fun b cur _ hh => Below.heap_setCell _ _ _ _ fun (e : b = g) => by
    subst e
    unfold Blk at hg
    rw [hg] at hh
    injection hh with hh
    injection hh with _ hh
    exact hT hh
/-- What cut tells, and leaves behind. -/
def CutPost (s : Option (List (BitVec 8))) (n : Int) (B : Nat) (p : Option Nat) (w : World) (e : Ending) (w' : World) : Prop :=
  w.grownBy w' p ∧ (hasB s n = false → e = .returned (.tuple #[.slice none 0 0, .bool false]) ∧ IsR w' B p none) ∧
    (hasB s n = true → ∃ L A, s = some L ∧ e = .returned (.tuple #[.slice A n.toNat n.toNat, .bool true]) ∧ Own5 w' B A (L.take n.toNat) ∧ (A = none → n.toNat = 0) ∧ IsR w' B p (some (L.drop n.toNat)))
theorem cut_end {w W : World} {B g cap k : Nat} {A : Option Addr} {L : List (BitVec 8)} {v : Value} (hb : Blk w g 78 [.slice A L.length cap, .bool true]) (hg : g < B) (ho : Own5 w B A L) (hz : A = none → cap = 0) (hl : L.length ≤ cap) (hm : cap ≤ 9223372036854775807) (hk : k ≤ L.length) (hs : hasB (some L) k = true)
    (hW : W = w.setCell ⟨g, 0, none⟩ v) (hv : v = .slice (if cap = k then A else A.map (·.add k)) (L.length - k) (cap - k)) :
    CutPost (some L) k B (some g) w (.returned (.tuple #[.slice A k k, .bool true])) W := by
  subst hW
  refine ⟨grown_setCells [v] 0 _ (grown_refl _ _), (fun h => by rw [hs] at h; cases h), fun _ => ⟨L, A, rfl, rfl, ?_, ?_, ?_⟩⟩
  · exact (ho.take k hk).store hb (by decide) 0 v
  · intro h; have := hz h; simp; omega
  · refine ⟨g, _, cap - k, rfl, hg, ?_, (ho.drop k hl).store hb (by decide) 0 v, by simp; omega, by omega, fun h => ?_⟩
    · have := hb.set 0 v
      rw [hv] at this ⊢
      simpa using this
    · by_cases e : cap = k
      · omega
      · rw [if_neg e] at h
        have := hz (by simpa using h)
        omega
theorem cut_any (p : Option Nat) (s : Option (List (BitVec 8))) (n : Int) (B : Nat) (w : World) (h : IsR w B p s) :
    Calls Try.prog 34 #[ptr p, .int .i64 n] w (CutPost s n B p w) := by
  have HH := Lib.hid (has_any p s n B w h)
  by_cases hs : hasB s n = true
  · cases s with
    | none => cases hs
    | some L =>
      have hn : 0 ≤ n ∧ n ≤ L.length := by simpa [hasB] using hs
      obtain ⟨k, rfl⟩ : ∃ k : Nat, n = k := ⟨n.toNat, by omega⟩
      obtain ⟨g, A, cap, rfl, hg, hb, ho, hl, hm, hz⟩ := h
      rw [ptr_some] at HH ⊢
      rw [hs] at HH
      have c0 := hb.cell (j := 0) (v := .slice A L.length cap) rfl
      have f0 := hb.free 0
      have k1 : k ≤ L.length := by omega
      have HO := Lib.hid ho
      have HB := Lib.hid hb
      have HZ := Lib.hid hz
      have HSs := Lib.hid hs
      clear ho hb hz hs hn
      go_enter Try.func34, Try.ntmps34
      go_wp2_with (go_at_call 60; (with_reducible refine HH.out.mono ?_); rintro e w' ⟨rfl, rfl⟩; dsimp only)
      all_goals go_ret2
      · have hk : cap = k := by assumption
        refine cut_end HB.out hg HO.out HZ.out hl hm k1 HSs.out rfl ?_
        rw [if_pos hk, hk, Nat.sub_self]
      · have hk : ¬ cap = k := by assumption
        refine cut_end HB.out hg HO.out HZ.out hl hm k1 HSs.out rfl ?_
        rw [if_neg hk]
  · have hs' : hasB s n = false := by simpa using hs
    have HT := Lib.hid (tear_any p s B w h)
    rw [hs'] at HH
    have HS := Lib.hid hs'
    obtain ⟨q, hq⟩ : ∃ q, q = ptr p := ⟨_, rfl⟩
    rw [← hq] at HT HH ⊢
    clear h hq hs hs'
    go_enter Try.func34, Try.ntmps34
    go_wp2_with (first | (go_at_call 60; (with_reducible refine HH.out.mono ?_); rintro e w' ⟨rfl, rfl⟩; dsimp only) | (go_at_call 59; (with_reducible refine HT.out.mono ?_); rintro e w1 ⟨rfl, hI, hG⟩; dsimp only))
    go_ret2
    exact ⟨hG, fun _ => ⟨rfl, hI⟩, fun h => by rw [HS.out] at h; cases h⟩
open Go.RowKit
set_option maxRecDepth 100000
set_option linter.unusedVariables false
set_option linter.unusedSimpArgs false
theorem Blk.same {w w' : World} {b : Nat} {T : TypeId} {vs : List Value} (h : Blk w b T vs) (e : w'.heap[b]? = w.heap[b]?) : Blk w' b T vs := by unfold Blk at *; rw [e]; exact h
theorem IsR.keep {w w' : World} {B : Nat} {p : Option Nat} {s : Option (List (BitVec 8))} (h : IsR w B p s) (hk : ∀ b, b < B → w'.heap[b]? = w.heap[b]?) : IsR w' B p s := by
  cases s with
  | none => exact fun g e => ⟨(h g e).1, (h g e).2.same (hk g (h g e).1)⟩
  | some L =>
    obtain ⟨g, A, cap, e, hg, hb, ho, r⟩ := h
    exact ⟨g, A, cap, e, hg, hb.same (hk g hg), ho.heap fun b _ hb _ => hk b hb, r⟩
theorem IsR.below {w w' : World} {B B' : Nat} {p : Option Nat} {s : Option (List (BitVec 8))} (h : IsR w B p s) (hb : Below B' w w') (hB : B ≤ B') : IsR w' B p s := h.keep fun b h => hb.block b (by omega)
theorem OB.base {w : World} {B B' : Nat} {v : Value} {L : List (BitVec 8)} (h : OB w B v L) (hB : B' ≤ B) : OB w B' v L := by
  refine ⟨h.1, ?_⟩
  rcases h.2 with hn | ⟨g, cap, cur, rfl, hbb, r⟩
  · exact .inl hn
  · exact .inr ⟨g, cap, cur, rfl, by omega, r⟩
theorem grown_below {w w1 w2 : World} {p : Option Nat} (h : w.grownBy w1 p) (hb : Below w1.heap.size w1 w2) : w.grownBy w2 p :=
  ⟨hb.os.trans h.os, hb.tape.trans h.tape, hb.output.trans h.output, Nat.le_trans h.size hb.size, fun k hk hne => (hb.block k (Nat.lt_of_lt_of_le hk h.size)).trans (h.block k hk hne)⟩
def takeL (s : Option (List (BitVec 8))) (n : Int) : List (BitVec 8) := match s with
  | none => []
  | some L => if hasB (some L) n = true then L.take n.toNat else []
def cutS (s : Option (List (BitVec 8))) (n : Int) : Option (List (BitVec 8)) := match s with
  | none => none
  | some L => if hasB (some L) n = true then some (L.drop n.toNat) else none
theorem cut_no {s : Option (List (BitVec 8))} {n : Int} (h : hasB s n = false) : takeL s n = [] ∧ cutS s n = none := by
  cases s with
  | none => exact ⟨rfl, rfl⟩
  | some L => exact ⟨by simp [takeL, h], by simp [cutS, h]⟩
theorem cut_yes {L : List (BitVec 8)} {n : Int} (h : hasB (some L) n = true) : takeL (some L) n = L.take n.toNat ∧ cutS (some L) n = some (L.drop n.toNat) ∧ n.toNat ≤ L.length :=
  ⟨by simp [takeL, h], by simp [cutS, h], by simp [hasB] at h; omega⟩
/-- What Take and Peek tell: new memory with the bytes X. -/
def NewPost (X : List (BitVec 8)) (s : Option (List (BitVec 8))) (B : Nat) (p : Option Nat) (w : World) (e : Ending) (w' : World) : Prop :=
  ∃ v, e = .returned v ∧ OB w' w.heap.size v X ∧ IsR w' B p s ∧ w.grownBy w' p
theorem IsR.len {w : World} {B : Nat} {p : Option Nat} {L : List (BitVec 8)} (h : IsR w B p (some L)) : L.length ≤ 9223372036854775807 := by
  obtain ⟨g, A, cap, _, _, _, _, h1, h2, _⟩ := h
  omega
theorem clone_len (A : Option Addr) (L : List (BitVec 8)) (m cap B : Nat) (w : World) (hm : L.length = m) (hR : Rd w B A L) (hB : B ≤ w.heap.size) (hc : A = none → cap = 0) (hl : L.length ≤ 140737488355328) :
    Calls Try.prog 31 #[.slice A m cap] w fun e w' => ∃ v, e = .returned v ∧ OB w' w.heap.size v L ∧ Below w.heap.size w w' := by
  subst hm; exact clone_any A L cap B w hR hB hc hl
theorem take_any (p : Option Nat) (s : Option (List (BitVec 8))) (n : Int) (B : Nat) (w : World) (h : IsR w B p s) (hB : B ≤ w.heap.size) (hl : ∀ L, s = some L → L.length ≤ 100000000) :
    Calls Try.prog 16 #[ptr p, .int .i64 n] w (NewPost (takeL s n) (cutS s n) B p w) := by
  have HC := Lib.hid (cut_any p s n B w h)
  by_cases hs : hasB s n = true
  · cases s with
    | none => cases hs
    | some L =>
      have HS := Lib.hid hs
      obtain ⟨h1, h2, h3⟩ := cut_yes hs
      have h4 := hl L rfl
      rw [h1, h2]
      have HL := Lib.hid h4
      obtain ⟨q, hq⟩ : ∃ q, q = ptr p := ⟨_, rfl⟩
      rw [← hq] at HC ⊢
      have HN := Lib.hid h3
      have HBB := Lib.hid hB
      clear h hq hs hl h1 h2 h3 h4 hB
      go_enter Try.func16, Try.ntmps16
      go_wp2_with (go_at_call 34; (with_reducible refine HC.out.mono ?_); rintro e w1 hP; obtain ⟨hG, hN, hY⟩ := hP; obtain ⟨M, A, hM, rfl, hO, hA, hI⟩ := hY HS.out; cases hM; clear hN hY; have HK := Lib.hid (clone_len A (L.take n.toNat) n.toNat n.toNat B w1 (by rw [List.length_take]; have := HN.out; omega) hO.rd (Nat.le_trans HBB.out hG.size) hA (by rw [List.length_take]; have := HL.out; omega)); clear hA hO HL HN; dsimp only)
      go_wp2_with (go_at_call 31; refine HK.out.mono ?_; rintro e w2 ⟨v, rfl, hO, hb⟩; dsimp only)
      go_ret
      exact ⟨_, rfl, hO.base hG.size, hI.below hb (Nat.le_trans HBB.out hG.size), grown_below hG hb⟩
  · have hs' : hasB s n = false := by simpa using hs
    obtain ⟨h1, h2⟩ := cut_no hs'
    rw [h1, h2]
    have HS := Lib.hid hs'
    have HK := fun w => Lib.hid (clone_any none [] 0 0 w (fun h => by simp at h) (Nat.zero_le _) (fun _ => rfl) (by decide))
    obtain ⟨q, hq⟩ : ∃ q, q = ptr p := ⟨_, rfl⟩
    rw [← hq] at HC ⊢
    have HBB := Lib.hid hB
    clear h hq hs hl h1 h2 hs' hB
    go_enter Try.func16, Try.ntmps16
    go_wp2_with (first | (go_at_call 34; (with_reducible refine HC.out.mono ?_); rintro e w1 hP; obtain ⟨hG, hN, hY⟩ := hP; obtain ⟨rfl, hI⟩ := hN HS.out; clear hN hY; dsimp only) | (go_at_call 31; refine (HK _).out.mono ?_; rintro e w2 ⟨v, rfl, hO, hb⟩; dsimp only))
    go_ret
    exact ⟨_, rfl, hO.base hG.size, hI.below hb (Nat.le_trans HBB.out hG.size), grown_below hG hb⟩
open Go.RowKit
set_option maxRecDepth 100000
set_option linter.unusedVariables false
set_option linter.unusedSimpArgs false
/-- The number that bytes form, the lowest first. -/
def lev : List (BitVec 8) → Nat
  | [] => 0
  | x :: r => x.toNat + 256 * lev r
theorem lev_lt : ∀ (L : List (BitVec 8)), lev L < 2 ^ (8 * L.length)
  | [] => by simp [lev]
  | x :: r => by
    have h := lev_lt r
    have hx := x.isLt
    have e : 2 ^ (8 * (x :: r).length) = 256 * 2 ^ (8 * r.length) := by
      rw [List.length_cons, show 8 * (r.length + 1) = 8 * r.length + 8 by omega, Nat.pow_add]; omega
    unfold lev
    omega
theorem lev_app : ∀ (L M : List (BitVec 8)), lev (L ++ M) = lev L + 2 ^ (8 * L.length) * lev M
  | [], M => by simp [lev]
  | x :: r, M => by
    rw [List.cons_append, lev, lev, lev_app r M, List.length_cons, show 8 * (r.length + 1) = 8 + 8 * r.length by omega, Nat.pow_add]
    rw [show (2 : Nat) ^ 8 = 256 from rfl, Nat.mul_add, Nat.mul_assoc]
    omega
theorem lev_snoc (L : List (BitVec 8)) (k : Nat) (hk : k < L.length) : lev (L.take (k + 1)) = lev (L.take k) + 2 ^ (8 * k) * (L.getD k 0).toNat := by
  rw [List.take_succ_eq_append_getElem hk, lev_app, List.length_take, Nat.min_eq_left (by omega)]
  simp [lev, List.getD, hk]
theorem or_add (a b k : Nat) (h : a < 2 ^ k) : a ||| (b * 2 ^ k) = a + 2 ^ k * b := by
  rw [Nat.or_comm, ← Nat.shiftLeft_eq, ← Nat.shiftLeft_add_eq_or_of_lt h, Nat.shiftLeft_eq]
  rw [Nat.mul_comm b]
  omega
theorem num_step (L : List (BitVec 8)) (k : Nat) (hk : k < L.length) (hk8 : k < 8) :
    bits .or .u64 (lev (L.take k) : Int) (IntKind.u64.wrap (IntKind.u64.wrap (Bt (L.getD k 0)) * 2 ^ (8 * k))) = (lev (L.take (k + 1)) : Int) := by
  obtain ⟨x, hx⟩ : ∃ x, x = L.getD k 0 := ⟨_, rfl⟩
  have hlt := lev_lt (L.take k)
  rw [List.length_take, Nat.min_eq_left (by omega)] at hlt
  have hp : (2 : Nat) ^ (8 * k) * 256 ≤ 18446744073709551616 := by
    have : (2 : Nat) ^ (8 * k) * 256 = 2 ^ (8 * k + 8) := by rw [Nat.pow_add]
    rw [this]
    exact Nat.pow_le_pow_right (by omega) (show 8 * k + 8 ≤ 64 by omega)
  rw [lev_snoc L k hk, ← hx, ← or_add _ _ _ hlt]
  have hb := x.isLt
  have hm : x.toNat * 2 ^ (8 * k) < 18446744073709551616 := by
    have : x.toNat * 2 ^ (8 * k) ≤ 255 * 2 ^ (8 * k) := Nat.mul_le_mul_right _ (by omega)
    have h0 : 0 < 2 ^ (8 * k) := Nat.two_pow_pos _
    omega
  have e : IntKind.u64.wrap (IntKind.u64.wrap (Bt x) * 2 ^ (8 * k)) = ((x.toNat * 2 ^ (8 * k) : Nat) : Int) := by
    rw [show IntKind.u64.wrap (Bt x) = Bt x by rw [IntKind.wrap_u64]; unfold Bt; omega, IntKind.wrap_u64]
    unfold Bt
    rw [show ((x.toNat : Int) * 2 ^ (8 * k)) = ((x.toNat * 2 ^ (8 * k) : Nat) : Int) by simp]
    omega
  rw [e, u64_or_nat _ _ (by omega) (by omega)]
def numV (s : Option (List (BitVec 8))) (n : Int) : Nat := if isW n then lev (takeL s n) else 0
def numS (s : Option (List (BitVec 8))) (n : Int) : Option (List (BitVec 8)) := if isW n then cutS s n else none
theorem isW_pos {n : Int} (h : isW n = true) : 1 ≤ n ∧ n ≤ 8 := by
  simp [isW] at h
  omega
/-- What Num tells, and leaves behind. -/
def NumPost (x : Nat) (s : Option (List (BitVec 8))) (B : Nat) (p : Option Nat) (w : World) (e : Ending) (w' : World) : Prop :=
  e = .returned (.int .u64 x) ∧ IsR w' B p s ∧ w.grownBy w' p
theorem num_any (p : Option Nat) (s : Option (List (BitVec 8))) (n : Int) (B : Nat) (w : World) (h : IsR w B p s) (hB : B ≤ w.heap.size) :
    Calls Try.prog 32 #[ptr p, .int .i64 n] w (NumPost (numV s n) (numS s n) B p w) := by
  have HW := Lib.hid (isWidth_any n w)
  by_cases hw : isW n = true
  · have HC := Lib.hid (cut_any p s n B w h)
    rw [hw] at HW
    by_cases hs : hasB s n = true
    · cases s with
      | none => cases hs
      | some L =>
        have hn := isW_pos hw
        obtain ⟨k, rfl⟩ : ∃ k : Nat, n = k := ⟨n.toNat, by omega⟩
        obtain ⟨h1, h2, h3⟩ := cut_yes hs
        have e1 : numV (some L) k = lev (L.take k) := by unfold numV; rw [if_pos hw, h1]; rfl
        have e2 : numS (some L) k = some (L.drop k) := by unfold numS; rw [if_pos hw, h2]; rfl
        rw [e1, e2]
        have hk1 : 1 ≤ k := by omega
        have hk8 : k ≤ 8 := by omega
        have hlen : (L.take k).length = k := by rw [List.length_take]; simp at h3; omega
        have HS := Lib.hid hs
        obtain ⟨q, hq⟩ : ∃ q, q = ptr p := ⟨_, rfl⟩
        rw [← hq] at HC ⊢
        have HLen := Lib.hid hlen
        clear h hq hs h1 h2 h3 e1 e2 hw hn hlen
        go_enter Try.func32, Try.ntmps32
        go_upto_region 9 with (first | (go_at_call 58; (with_reducible refine HW.out.mono ?_); rintro e w' ⟨rfl, rfl⟩; dsimp only) | (go_at_call 34; (with_reducible refine HC.out.mono ?_); rintro e w1 hP; obtain ⟨hG, hN, hY⟩ := hP; obtain ⟨M, A, hM, rfl, hO, hA, hI⟩ := hY HS.out; cases hM; clear hN hY hA; dsimp only))
        rw [show ((k : Int).toNat) = k from rfl] at hO hI
        obtain ⟨X, hX⟩ : ∃ X, X = L.take k := ⟨_, rfl⟩
        have hlen : X.length = k := by rw [hX]; exact HLen.out
        rw [← hX] at hO ⊢
        obtain ⟨b, o, rfl, hbB, hc⟩ := hO.rd (by omega)
        have hst := num_step X
        rw [hlen] at hst
        have hfin : X.take k = X := List.take_of_length_le (by omega)
        rw [hlen] at hc
        have HF := Lib.hid hfin
        have HXe := Lib.hid hX
        have HX := Lib.hid hst
        have HCl := Lib.hid hc
        have HI := Lib.hid hI
        have HG := Lib.hid hG
        clear hO HLen HS HC hX hlen hst hfin hc hI hG
        go_loop [7, 23] (fun t i => ∃ j : Nat, j ≤ k ∧ i = .int .i64 j ∧ t = .int .u64 (lev (X.take j))) (fun _ i => k - (intOf i).toNat)
        case atStart => exact ⟨0, Nat.zero_le _, rfl, rfl⟩
        case round =>
          obtain ⟨j, hj, rfl, rfl⟩ := hrel
          by_cases hlt : j < k
          · have c0 := HCl.out j hlt
            have h0 : (0 : Int) ≤ (j : Int) := by omega
            have hmin : min (8 * j) 64 = 8 * j := by omega
            have hor := HX.out j hlt (by omega)
            obtain ⟨z, hz⟩ : ∃ z, z = lev (X.take j) := ⟨_, rfl⟩
            obtain ⟨z', hz'⟩ : ∃ z', z' = lev (X.take (j + 1)) := ⟨_, rfl⟩
            obtain ⟨y, hy⟩ : ∃ y, y = X.getD j 0 := ⟨_, rfl⟩
            have HZ := Lib.hid hz'
            rw [← hy] at c0 hor
            rw [← hz, ← hz'] at hor
            rw [← hz]
            clear hz hz' hy
            go_wp2
            go_round
            case rel => exact ⟨j + 1, by omega, by go_num, by rw [HZ.out]⟩
            case measure => simp [intOf]; omega
          · obtain rfl : j = k := by omega
            go_wp2
            go_ret
            exact ⟨ret_int (by rw [HF.out, HXe.out]), HI.out, HG.out⟩
    · have hs' : hasB s n = false := by simpa using hs
      obtain ⟨h1, h2⟩ := cut_no hs'
      have e1 : numV s n = 0 := by unfold numV; rw [if_pos hw, h1]; rfl
      have e2 : numS s n = none := by unfold numS; rw [if_pos hw, h2]
      rw [e1, e2]
      have HS := Lib.hid hs'
      obtain ⟨q, hq⟩ : ∃ q, q = ptr p := ⟨_, rfl⟩
      rw [← hq] at HC ⊢
      clear h hq hs h1 h2 hs' e1 e2 hw
      go_enter Try.func32, Try.ntmps32
      go_wp2_with (first | (go_at_call 58; (with_reducible refine HW.out.mono ?_); rintro e w' ⟨rfl, rfl⟩; dsimp only) | (go_at_call 34; (with_reducible refine HC.out.mono ?_); rintro e w1 hP; obtain ⟨hG, hN, hY⟩ := hP; obtain ⟨rfl, hI⟩ := hN HS.out; clear hN hY; dsimp only))
      go_ret
      exact ⟨rfl, hI, hG⟩
  · have hw' : isW n = false := by simpa using hw
    have HT := Lib.hid (tear_any p s B w h)
    rw [hw'] at HW
    have e1 : numV s n = 0 := by unfold numV; rw [if_neg hw]
    have e2 : numS s n = none := by unfold numS; rw [if_neg hw]
    rw [e1, e2]
    obtain ⟨q, hq⟩ : ∃ q, q = ptr p := ⟨_, rfl⟩
    rw [← hq] at HT ⊢
    clear h hq e1 e2 hw hw'
    go_enter Try.func32, Try.ntmps32
    go_wp2_with (first | (go_at_call 58; (with_reducible refine HW.out.mono ?_); rintro e w' ⟨rfl, rfl⟩; dsimp only) | (go_at_call 59; (with_reducible refine HT.out.mono ?_); rintro e w1 ⟨rfl, hI, hG⟩; dsimp only))
    go_ret
    exact ⟨rfl, hI, hG⟩
open Go.RowKit
set_option maxRecDepth 100000
set_option linter.unusedVariables false
set_option linter.unusedSimpArgs false
/-- The k lowest bytes of a number, the lowest first. -/
def les (n k : Nat) : List (BitVec 8) := (List.range k).map fun i => BitVec.ofNat 8 (n / 2 ^ (8 * i))
theorem les_succ (n k : Nat) : les n (k + 1) = les n k ++ [BitVec.ofNat 8 (n / 2 ^ (8 * k))] := by simp [les, List.range_succ]
theorem les_len (n k : Nat) : (les n k).length = k := by simp [les]
theorem byte_val (n k : Nat) : IntKind.u8.wrap ((n : Int) / 2 ^ (8 * k)) = Bt (BitVec.ofNat 8 (n / 2 ^ (8 * k))) := by
  rw [IntKind.wrap_u8']
  unfold Bt
  rw [BitVec.toNat_ofNat]
  have : ((n : Int) / 2 ^ (8 * k)) = ((n / 2 ^ (8 * k) : Nat) : Int) := by simp
  rw [this]
  omega
theorem run_make22 (n k : Nat) (h : n + k ≤ 281474976710656) (w : World) : ∃ cur : List Value, cur.length = n + k ∧
    (Instr.makeSlice 22 (.int .i64 (n : Int)) (.int .i64 ((n : Int) + (k : Int)))).run Try.prog w = .ok (.slice (some ⟨w.heap.size, 0, none⟩) n (n + k)) (w.alloc (.cells cur.toArray 5)) := by
  obtain ⟨i0, hi, hz0, hz1, hz2⟩ := info_parts info5
  have hr := run_make (P := Try.prog) w 22 5 i0 (.int .u8 0) Try.underlying22 hi hz0 .i64 .i64 (n : Int) ((n : Int) + (k : Int)) (by omega) (by omega) (by rw [hz2]; omega) (by omega)
  refine ⟨(madeCells (Value.int IntKind.u8 0).cells (((n : Int) + (k : Int)).toNat * i0.size)).toList, ?_, ?_⟩
  · rw [Array.length_toList]
    have := size_madeCells (Value.int IntKind.u8 0).cells (((n : Int) + (k : Int)).toNat * i0.size)
    rw [this, hz1]; omega
  · rw [hr]; rw [show ((n : Int)).toNat = n by omega, show ((n : Int) + (k : Int)).toNat = n + k by omega]
theorem ob_of_splice {w : World} {B g m : Nat} {L : List (BitVec 8)} {cur : List Value} (hc : cur.length = L.length + m) (hm : L.length + m ≤ maxLen) (hb : w.heap[g]? = some (.cells (splice cur 0 (vbs L)).toArray 5 (0, 0))) (hB : B ≤ g := by omega) :
    OB w B (.slice (some ⟨g, 0, none⟩) L.length (L.length + m)) L := by
  refine ⟨by rw [vbs_len]; omega, .inr ⟨g, L.length + m, _, rfl, hB, hb, by omega, hm, ?_, ?_⟩⟩
  · simp [splice, vbs_len]; omega
  · simp [splice, vbs_len]
/-- What Put tells. -/
def PutPost (L : List (BitVec 8)) (k : Int) (n : Nat) (w : World) (e : Ending) (w' : World) : Prop :=
  Below w.heap.size w w' ∧ ((isW k = true ∧ n < 2 ^ (8 * k.toNat) → ∃ v, e = .returned (.tuple #[v, .int .i64 0]) ∧ OB w' w.heap.size v (L ++ les n k.toNat)) ∧
    (¬ (isW k = true ∧ n < 2 ^ (8 * k.toNat)) → e = .returned (.tuple #[.slice none 0 0, .int .i64 2])))
open Go.RowKit
set_option linter.unusedVariables false
set_option linter.unusedSimpArgs false
set_option maxRecDepth 100000
/-- How many bytes follow the first one of the form of n. -/
def wid (n : Nat) : Nat := if n < 253 then 0 else if n < 65536 then 2 else if n < 4294967296 then 4 else 8
/-- The first byte of the form of n. -/
def fst (n : Nat) : Nat := if n < 253 then n else if n < 65536 then 253 else if n < 4294967296 then 254 else 255
/-- How many bytes follow a first byte. -/
def fol (b : Nat) : Nat := if b = 255 then 8 else if b = 254 then 4 else if b = 253 then 2 else 0
/-- The compact form of n. -/
def form (n : Nat) : List (BitVec 8) := BitVec.ofNat 8 (fst n) :: les n (wid n)
theorem fst_lt (n : Nat) : fst n < 256 := by
  unfold fst
  repeat' split
  all_goals omega
theorem fol_fst (n : Nat) : fol (fst n) = wid n := by
  unfold fol fst wid
  by_cases h1 : n < 253
  · simp only [h1, if_true]; rw [if_neg (by omega), if_neg (by omega), if_neg (by omega)]
  · by_cases h2 : n < 65536
    · simp [h1, h2]
    · by_cases h3 : n < 4294967296
      · simp [h1, h2, h3]
      · simp [h1, h2, h3]
theorem wid_le (n : Nat) : wid n ≤ 8 := by
  unfold wid
  repeat' split
  all_goals omega
theorem form_len (n : Nat) : (form n).length = 1 + wid n := by simp [form, les_len]; omega
theorem first_any (n : Nat) (w : World) : Calls Try.prog 52 #[.int .u64 n] w fun e w' => e = .returned (.int .u8 (fst n)) ∧ w = w' := by
  by_cases h1 : n < 253
  · have e : fst n = n := by simp [fst, h1]
    have h1' : (n : Int) < 253 := by omega
    rw [e]
    clear h1 e
    go_enter Try.func52, Try.ntmps52
    go_wp2
    go_ret
    exact ⟨rfl, rfl⟩
  · have h1' : ¬ (n : Int) < 253 := by omega
    by_cases h2 : n < 65536
    · have e : fst n = 253 := by simp [fst, h1, h2]
      have h2' : (n : Int) < 65536 := by omega
      rw [e]
      clear h1 h2 e
      go_enter Try.func52, Try.ntmps52
      go_wp2
      go_ret
      exact ⟨rfl, rfl⟩
    · have h2' : ¬ (n : Int) < 65536 := by omega
      by_cases h3 : n < 4294967296
      · have e : fst n = 254 := by simp [fst, h1, h2, h3]
        have h3' : (n : Int) < 4294967296 := by omega
        rw [e]
        clear h1 h2 h3 e
        go_enter Try.func52, Try.ntmps52
        go_wp2
        go_ret
        exact ⟨rfl, rfl⟩
      · have e : fst n = 255 := by simp [fst, h1, h2, h3]
        have h3' : ¬ (n : Int) < 4294967296 := by omega
        rw [e]
        clear h1 h2 h3 e
        go_enter Try.func52, Try.ntmps52
        go_wp2
        go_ret
        exact ⟨rfl, rfl⟩
theorem following_any (b : Nat) (w : World) : Calls Try.prog 53 #[.int .u8 b] w fun e w' => e = .returned (.int .i64 (fol b)) ∧ w = w' := by
  by_cases h1 : b = 255
  · subst h1
    go_enter Try.func53, Try.ntmps53
    go_wp2
    go_ret
    exact ⟨rfl, rfl⟩
  · have e1 : ((b : Int) == 255) = false := by simp; omega
    by_cases h2 : b = 254
    · subst h2
      go_enter Try.func53, Try.ntmps53
      go_wp2
      go_ret
      exact ⟨rfl, rfl⟩
    · have e2 : ((b : Int) == 254) = false := by simp; omega
      by_cases h3 : b = 253
      · subst h3
        go_enter Try.func53, Try.ntmps53
        go_wp2
        go_ret
        exact ⟨rfl, rfl⟩
      · have e3 : ((b : Int) == 253) = false := by simp; omega
        have e : fol b = 0 := by simp [fol, h1, h2, h3]
        rw [e]
        clear e h1 h2 h3
        go_enter Try.func53, Try.ntmps53
        go_wp2
        go_ret
        exact ⟨rfl, rfl⟩
theorem size_any (n : Nat) (w : World) : Calls Try.prog 51 #[.int .u64 n] w fun e w' => e = .returned (.int .i64 ((1 + wid n : Nat) : Int)) ∧ w = w' := by
  have K1 := Lib.hid (first_any n w)
  have K2 := Lib.hid (following_any (fst n) w)
  rw [fol_fst] at K2
  have hl := wid_le n
  obtain ⟨b, hb⟩ : ∃ b, b = fst n := ⟨_, rfl⟩
  obtain ⟨v, hv⟩ : ∃ v, v = wid n := ⟨_, rfl⟩
  rw [← hb] at K1 K2
  rw [← hv] at K2 hl ⊢
  clear hb hv
  go_enter Try.func51, Try.ntmps51
  go_wp2_with (first | (go_at_call 52; (with_reducible refine K1.out.mono ?_); rintro e w' ⟨rfl, rfl⟩; dsimp only) | (go_at_call 53; (with_reducible refine K2.out.mono ?_); rintro e w' ⟨rfl, rfl⟩; dsimp only))
  go_ret
  exact ⟨ret_int (by omega), rfl⟩
open Go.RowKit
set_option maxRecDepth 100000
set_option linter.unusedVariables false
set_option linter.unusedSimpArgs false
def Z32 : List (BitVec 8) := List.replicate 32 0
def hashL (s : Option (List (BitVec 8))) : List (BitVec 8) := if hasB s 32 then takeL s 32 else Z32
theorem hashL_len (s : Option (List (BitVec 8))) : (hashL s).length = 32 := by
  unfold hashL
  by_cases h : hasB s 32 = true
  · rw [if_pos h]
    cases s with
    | none => cases h
    | some L => rw [(cut_yes h).1]; have := (cut_yes h).2.2; simp at this ⊢; omega
  · rw [if_neg h]; rfl
theorem splice_all (Z R : List Value) (h : R.length = Z.length) : splice Z 0 R = R := by simp [splice, h]
theorem heap_setCells (b : Nat) : ∀ (us : List Value) (o k : Nat) {w : World}, k ≠ b → (w.setCells b o us).heap[k]? = w.heap[k]?
  | [], _, _, _, _ => rfl
  | u :: us, o, k, w, h => by
    show ((w.setCell ⟨b, o, none⟩ u).setCells b (o + 1) us).heap[k]? = _
    rw [heap_setCells b us (o + 1) k h, Below.heap_setCell _ _ _ _ h]
theorem setCells_same (b : Nat) : ∀ (us : List Value) (o : Nat) (w : World), (w.setCells b o us).os = w.os ∧ (w.setCells b o us).tape = w.tape ∧ (w.setCells b o us).output = w.output ∧ (w.setCells b o us).heap.size = w.heap.size
  | [], _, _ => ⟨rfl, rfl, rfl, rfl⟩
  | u :: us, o, w => by
    obtain ⟨h1, h2, h3, h4⟩ := setCells_same b us (o + 1) (w.setCell ⟨b, o, none⟩ u)
    exact ⟨h1, h2, h3, by show ((w.setCell ⟨b, o, none⟩ u).setCells b (o + 1) us).heap.size = _; rw [h4]; simp [World.setCell]⟩
/-- What Hash tells, and leaves behind. -/
def HashPost (X : List (BitVec 8)) (s : Option (List (BitVec 8))) (B : Nat) (p : Option Nat) (w : World) (e : Ending) (w' : World) : Prop :=
  e = .returned (.agg (vbs X).toArray) ∧ IsR w' B p s ∧ w.grownBy w' p
theorem Own5.below {w w' : World} {B : Nat} {A : Option Addr} {L : List (BitVec 8)} (h : Own5 w B A L) (hb : Below B w w') : Own5 w' B A L := h.heap fun b _ hl _ => hb.block b hl
theorem Own5.up {w : World} {B B' : Nat} {A : Option Addr} {L : List (BitVec 8)} (h : Own5 w B A L) (hB : B ≤ B') : Own5 w B' A L := fun hp => by
  obtain ⟨b, o, cur, e, hb, r⟩ := h hp
  exact ⟨b, o, cur, e, by omega, r⟩
theorem OB.own5 {w : World} {B : Nat} {v : Value} {L : List (BitVec 8)} (h : OB w B v L) : ∃ A cap, v = .slice A L.length cap ∧ Own5 w w.heap.size A L ∧ L.length ≤ cap ∧ cap ≤ 9223372036854775807 ∧ (A = none → cap = 0) := by
  have h' : w.ownsRow B 5 1 v L.length (vbs L) := h
  rcases h'.2 with ⟨rfl, h0⟩ | ⟨g, cap, cur, rfl, hb, hg, hn, hm, hcs, ht⟩
  · exact ⟨none, 0, by rw [h0], fun hp => by omega, by omega, by omega, fun _ => rfl⟩
  · refine ⟨_, cap, rfl, fun hp => ⟨g, 0, cur, rfl, (Array.getElem?_eq_some_iff.1 hg).1, hg, fun j hj => ?_⟩, hn, by unfold maxLen at hm; omega, fun h => by cases h⟩
    have h1 := h'.cells (g := g) rfl j (.int .u8 (Bt (L.getD j 0))) (vbs_at hj)
    rw [Addr.add_mid] at h1
    simpa [World.cell?, hg] using h1
theorem open_any (A : Option Addr) (L : List (BitVec 8)) (cap B : Nat) (w : World) (hR : Rd w B A L) (hB : B ≤ w.heap.size) (hc : A = none → cap = 0) (hl : L.length ≤ 100000000) :
    Calls Try.prog 14 #[.slice A L.length cap] w fun e w' => ∃ g, e = .returned (ptr (some g)) ∧ IsR w' (g + 1) (some g) (some L) ∧ w.heap.size ≤ g ∧ g < w'.heap.size ∧ Below w.heap.size w w' := by
  have HK := Lib.hid (clone_any A L cap B w hR hB hc (by omega))
  have HL := Lib.hid hl
  obtain ⟨n, hn⟩ : ∃ n, n = L.length := ⟨_, rfl⟩
  have HN := Lib.hid hn
  rw [← hn] at HK ⊢
  clear hR hc hl hn hB
  go_enter Try.func14, Try.ntmps14
  go_wp2_with (go_at_call 31; refine HK.out.mono ?_; rintro e w2 ⟨v, rfl, hO, hb⟩; obtain ⟨A', cap', rfl, hO5, h1, h2, h3⟩ := hO.own5; rw [← HN.out]; have H1 := Lib.hid h1; have H3 := Lib.hid h3; clear h1 h3; dsimp only)
  go_ret
  refine ⟨w2.heap.size, rfl, ⟨w2.heap.size, A', cap', rfl, by omega, ?_, (hO5.below ((Below.refl _ _).alloc (Nat.le_refl _) _)).up (by omega), H1.out, h2, H3.out⟩, hb.size, by simp, hb.alloc hb.size _⟩
  rw [← HN.out]
  exact Blk.new _ _ _
open Go.RowKit
set_option maxRecDepth 100000
set_option linter.unusedVariables false
set_option linter.unusedSimpArgs false
theorem rd_of_blk {w : World} {b T : Nat} {R : List (BitVec 8)} (h : Blk w b T (vbs R)) : Rd w w.heap.size (some ⟨b, 0, none⟩) R := fun hp => ⟨b, 0, rfl, h.lt, fun j hj => by rw [Nat.zero_add]; exact h.cell (vbs_at hj)⟩
theorem open_known (w : World) : Calls Try.prog 14 #[.slice (some ⟨w.heap.size, 0, none⟩) 3 3] (w.alloc (.cells #[.int .u8 2, .int .u8 1, .int .u8 5] 5)) fun e w' => ∃ g, e = .returned (ptr (some g)) ∧ IsR w' (g + 1) (some g) (some [2, 1, 5]) ∧ w.heap.size < g ∧ g < w'.heap.size ∧ Below w.heap.size w w' :=
  (open_any (some ⟨w.heap.size, 0, none⟩) [2, 1, 5] 3 _ _ (rd_of_blk (Blk.new w 5 #[.int .u8 2, .int .u8 1, .int .u8 5])) (Nat.le_refl _) (fun h => by cases h) (by decide)).mono fun e w' ⟨g, he, hi, h1, h2, h3⟩ =>
    ⟨g, he, hi, by simp at h1; omega, h2, ((Below.refl _ _).alloc (Nat.le_refl _) _).trans (h3.mono (by simp))⟩
theorem conv_lit {w : World} {A : Option Addr} {L : List (BitVec 8)} {n c B : Nat} (h : Rd w B A L) (hn : n = L.length) (s : ByteArray) (hs : strB L = s) : (convert 22 9 (.slice A n c)).run Try.prog w = .ok (.string s) w := by
  rw [← hs]
  exact run_conv_slice w Try.underlying22 Try.underlying5 Try.underlying9 A L n c hn B h
theorem num_w (w : World) (g B : Nat) (L : List (BitVec 8)) (n : Int) (x : Nat) (s : Option (List (BitVec 8))) (hx : numV (some L) n = x) (hs : numS (some L) n = s) (h : IsR w B (some g) (some L)) (hB : B ≤ w.heap.size) :
    Calls Try.prog 32 #[ptr (some g), .int .i64 n] w (NumPost x s B (some g) w) := by
  rw [← hx, ← hs]; exact num_any _ _ n B w h hB
theorem take_w (w : World) (g B : Nat) (L : List (BitVec 8)) (n : Int) (X : List (BitVec 8)) (s : Option (List (BitVec 8))) (hx : takeL (some L) n = X) (hs : cutS (some L) n = s) (h : IsR w B (some g) (some L)) (hB : B ≤ w.heap.size) (hl : L.length ≤ 100000000) :
    Calls Try.prog 16 #[ptr (some g), .int .i64 n] w (NewPost X s B (some g) w) := by
  rw [← hx, ← hs]; exact take_any _ _ n B w h hB (fun M e => by cases e; exact hl)
open Go.RowKit
set_option maxRecDepth 100000
set_option linter.unusedVariables false
set_option linter.unusedSimpArgs false
theorem width_any (n : Int) (w : World) : Calls Try.prog 38 #[.int .i64 n] w fun e w' => e = .returned (.bool (isW n)) ∧ w = w' := by
  by_cases h1 : n = 1
  · subst h1
    go_enter Try.func38, Try.ntmps38
    go_wp2
    go_ret
    exact ⟨rfl, rfl⟩
  · have e1 : (n == 1) = false := by simp [h1]
    by_cases h2 : n = 2
    · subst h2
      go_enter Try.func38, Try.ntmps38
      go_wp2
      go_ret
      exact ⟨rfl, rfl⟩
    · have e2 : (n == 2) = false := by simp [h2]
      by_cases h4 : n = 4
      · subst h4
        go_enter Try.func38, Try.ntmps38
        go_wp2
        go_ret
        exact ⟨rfl, rfl⟩
      · have e4 : (n == 4) = false := by simp [h4]
        by_cases h8 : n = 8
        · subst h8
          go_enter Try.func38, Try.ntmps38
          go_wp2
          go_ret
          exact ⟨rfl, rfl⟩
        · have e8 : (n == 8) = false := by simp [h8]
          have e : isW n = false := by unfold isW; simp [h1, h2, h4, h8]
          rw [e]
          go_enter Try.func38, Try.ntmps38
          go_wp2
          go_ret
          exact ⟨rfl, rfl⟩
theorem byte_mod (n j : Nat) : IntKind.u8.wrap (((n / 2 ^ (8 * j) : Nat) : Int) % 256) = Bt (BitVec.ofNat 8 (n / 2 ^ (8 * j))) := by
  rw [IntKind.wrap_u8']
  unfold Bt
  rw [BitVec.toNat_ofNat]
  omega
theorem div_next (n j : Nat) : ((n / 2 ^ (8 * j) : Nat) : Int) / 256 = ((n / 2 ^ (8 * (j + 1)) : Nat) : Int) := by
  rw [show 8 * (j + 1) = 8 * j + 8 by omega, Nat.pow_add, ← Nat.div_div_eq_div_mul]
  simp
def DigPost (n m : Nat) (w : World) (e : Ending) (w' : World) : Prop :=
  ∃ v, e = .returned (.tuple #[v, .int .u64 ((n / 2 ^ (8 * m) : Nat) : Int)]) ∧ OB w' w.heap.size v (les n m) ∧ Below w.heap.size w w'
theorem digits_any (m n : Nat) (w : World) (hm : m ≤ 8) (hn : n < 18446744073709551616) : Calls Try.prog 62 #[.int .i64 m, .int .u64 n] w (DigPost n m w) := by
  go_enter Try.func62, Try.ntmps62
  go_wp2
  go_loopw [1, 6, 7] (fun x v i wq => ∃ j : Nat, j ≤ m ∧ i = .int .i64 j ∧ x = .int .u64 ((n / 2 ^ (8 * j) : Nat) : Int) ∧ OB wq w.heap.size v (les n j) ∧ Below w.heap.size w wq) (fun _ _ i _ => m - (intOf i).toNat)
  case atStart => exact ⟨0, Nat.zero_le _, rfl, by simp, OB.nil _ _, Below.refl _ _⟩
  case round =>
    obtain ⟨j, hj, rfl, rfl, ho, hb⟩ := hrel
    by_cases hlt : j < m
    · have hbv := byte_mod n j
      have hdn := div_next n j
      obtain ⟨x, hx⟩ : ∃ x, x = BitVec.ofNat 8 (n / 2 ^ (8 * j)) := ⟨_, rfl⟩
      obtain ⟨q, hq⟩ : ∃ q, q = n / 2 ^ (8 * j) := ⟨_, rfl⟩
      obtain ⟨q', hq'⟩ : ∃ q', q' = n / 2 ^ (8 * (j + 1)) := ⟨_, rfl⟩
      rw [← hx, ← hq] at hbv
      rw [← hq, ← hq'] at hdn
      rw [← hq]
      have Hx := Lib.hid hx
      have Hq' := Lib.hid hq'
      have HOo := Lib.hid (ho.alloc (.cells #[.int .u8 (Bt x)] 5))
      have hs := Lib.hid (src_one wr x)
      have HBo := Lib.hid (hb.alloc hb.size (.cells #[.int .u8 (Bt x)] 5))
      have HSz : Hid (w.heap.size ≤ (wr.alloc (.cells #[.int .u8 (Bt x)] 5)).heap.size) := HBo.out.size
      have HLe : Hid ((les n j).length + [x].length ≤ 140737488355328) := show (les n j).length + [x].length ≤ 140737488355328 by rw [les_len]; simp; omega
      have h0 : (0 : Int) ≤ (q : Int) := by omega
      clear ho hb hx hq hq'
      go_wp2_with (refine wpList_push (o := ⟨some 18, _, _, _, _, _⟩) rfl (.tmp 13) (.tmp 17) rfl rfl w.heap.size _ _ [x] rfl HOo.out (some ⟨wr.heap.size, 0, none⟩) 1 1 rfl (one_len _) hs.out (fun h => by cases h) HLe.out HBo.out HSz.out (Nat.le_refl _) ?_; intro v' w' h1 h2 h3)
      go_roundw
      case rel => exact ⟨j + 1, by omega, by go_num, by rw [show IntKind.u64.wrap (q' : Int) = q' by rw [IntKind.wrap_u64]; have := Nat.div_le_self n (2 ^ (8 * (j + 1))); have := Hq'.out; omega, ← Hq'.out], by rw [les_succ, ← Hx.out]; exact h1, h2⟩
      case measure => simp [intOf]; omega
    · obtain rfl : j = m := by omega
      have HOo := Lib.hid ho
      have HBo := Lib.hid hb
      clear ho hb
      go_wp2
      go_ret2
      exact ⟨_, rfl, HOo.out, HBo.out⟩
open Go.RowKit
set_option maxRecDepth 100000
set_option linter.unusedVariables false
set_option linter.unusedSimpArgs false
theorem xor255 (x : BitVec 8) : bits .xor .u8 (Bt x) 255 = Bt (x ^^^ 255) := by
  unfold Bt
  rw [show (255 : Int) = ((255 : Nat) : Int) from rfl, u8_xor_nat _ _ x.isLt (by omega), BitVec.toNat_xor]
  rfl
theorem OB.set {w : World} {B g n cap k : Nat} {X : List (BitVec 8)} (h : OB w B (.slice (some ⟨g, 0, none⟩) n cap) X) (hk : k < X.length) (z : BitVec 8) : OB (w.setCell ⟨g, k, none⟩ (.int .u8 (Bt z))) B (.slice (some ⟨g, 0, none⟩) n cap) (X.set k z) := by
  refine ⟨by rw [vbs_len]; simp, ?_⟩
  rcases h.2 with ⟨hn, _⟩ | ⟨g', cap', cur, hv, hbb, hgg, h1, h2, h3, h4⟩
  · cases hn
  · cases hv
    refine .inr ⟨g, cap, cur.setIfInBounds k (.int .u8 (Bt z)), by rw [List.length_set], hbb, ?_, by rw [List.length_set]; exact h1, h2, by simpa using h3, ?_⟩
    · simp only [World.setCell, Array.getElem?_modify, hgg]
      simp
    · rw [← vbs_set, ← h4, Array.toList_setIfInBounds, List.length_set, List.take_set]
theorem OB.cells {w : World} {B g n cap k : Nat} {X : List (BitVec 8)} (h : OB w B (.slice (some ⟨g, 0, none⟩) n cap) X) (hk : k < X.length) : w.cell? ⟨g, k, none⟩ = some (.int .u8 (Bt (X.getD k 0))) ∧ w.frozen? ⟨g, k, none⟩ = false ∧ B ≤ g ∧ n = X.length := by
  have h' : w.ownsRow B 5 1 (.slice (some ⟨g, 0, none⟩) n cap) X.length (vbs X) := h
  rcases h'.2 with ⟨hn, _⟩ | ⟨g', cap', cur, hv, hbb, hgg, h1, h2, h3, h4⟩
  · cases hn
  · cases hv
    have hc := h'.cells (g := g) rfl k _ (vbs_at hk)
    rw [Addr.add_mid, Nat.zero_add] at hc
    exact ⟨hc, by simp [World.frozen?, hgg], hbb, rfl⟩
theorem OB.form {w : World} {B n cap : Nat} {A : Option Addr} {X : List (BitVec 8)} (h : OB w B (.slice A n cap) X) (hp : 0 < X.length) : ∃ g, A = some ⟨g, 0, none⟩ := by
  rcases h.2 with ⟨_, h0⟩ | ⟨g, cap', cur, hv, _⟩
  · omega
  · cases hv; exact ⟨g, rfl⟩
theorem conv_n {w : World} {A : Option Addr} {L : List (BitVec 8)} {n c B : Nat} (h : Rd w B A L) (hn : n = L.length) : (convert 22 9 (.slice A n c)).run Try.prog w = .ok (.string (strB L)) w :=
  run_conv_slice w Try.underlying22 Try.underlying5 Try.underlying9 A L n c hn B h
theorem up_to {w w' : World} {B B' : Nat} {A : Option Addr} {R : List (BitVec 8)} (h : Rd w B A R) (hb : Below B' w w') (hB : B ≤ B') : Rd w' B A R := h.keep (hb.mono hB)
open Go.RowKit
set_option linter.unusedVariables false
set_option linter.unusedSimpArgs false
set_option maxRecDepth 100000
/-- What a call that lays bytes tells: new memory with the bytes X. -/
def LaidPost (X : List (BitVec 8)) (w : World) (e : Ending) (w' : World) : Prop :=
  ∃ v, e = .returned v ∧ OB w' w.heap.size v X ∧ Below w.heap.size w w'
theorem Bt_fst (n : Nat) : Bt (BitVec.ofNat 8 (fst n)) = (fst n : Int) := by
  unfold Bt
  rw [BitVec.toNat_ofNat]
  have := fst_lt n
  omega
theorem put_any (A : Option Addr) (L : List (BitVec 8)) (cap B : Nat) (n : Nat) (w : World) (hR : Rd w B A L) (hB : B ≤ w.heap.size) (hl : L.length ≤ 100000000) :
    Calls Try.prog 28 #[.slice A L.length cap, .int .u64 n] w (LaidPost (L ++ form n) w) := by
  have K14 := Lib.hid (size_any n w)
  have K25 := Lib.hid (fun w => first_any n w)
  have K26 := Lib.hid (fun w => following_any (fst n) w)
  rw [fol_fst] at K26
  obtain ⟨m, hm⟩ : ∃ m, m = wid n := ⟨_, rfl⟩
  have hm8 : m ≤ 8 := by rw [hm]; exact wid_le n
  rw [← hm] at K14 K26
  obtain ⟨x0, hx0⟩ : ∃ x, x = BitVec.ofNat 8 (fst n) := ⟨_, rfl⟩
  have hx1 : (fst n : Int) = Bt x0 := by rw [hx0]; exact (Bt_fst n).symm
  rw [hx1] at K25 K26
  have HF : Hid (form n = [x0] ++ les n m) := show form n = [x0] ++ les n m by rw [hx0, hm]; rfl
  obtain ⟨cur, hcl, hmk⟩ := run_make22 L.length (1 + m) (by omega) w
  rw [show (((1 + m : Nat)) : Int) = 1 + (m : Int) by omega] at hmk
  have HR := Lib.hid hR
  have HBB := Lib.hid hB
  have HL := Lib.hid hl
  have HCl := Lib.hid hcl
  clear hm hx0 hx1 hR hcl hB
  go_enter Try.func28, Try.ntmps28
  go_upto_region 2 with (go_at_call 51; (with_reducible refine K14.out.mono ?_); rintro e w' ⟨rfl, rfl⟩; dsimp only)
  generalize hW1 : w.alloc (.cells cur.toArray 5) = W1
  have hB1 : Blk W1 w.heap.size 5 cur := by rw [← hW1]; exact Blk.new w 5 cur.toArray
  have hb1 : Below w.heap.size w W1 := by rw [← hW1]; exact (Below.refl _ _).alloc (Nat.le_refl _) _
  have HB1 := Lib.hid hB1
  have Hb1 := Lib.hid hb1
  have c1 : Hid ((vbs L).length = Nat.min L.length L.length) := show (vbs L).length = min L.length L.length by rw [vbs_len]; omega
  have c2 : Hid (0 < (vbs L).length → (some (⟨w.heap.size, 0, none⟩ : Addr)) = some ⟨w.heap.size, 0, none⟩ ∧ ∃ ad : Addr, A = some ad ∧ ∀ j v, (vbs L)[j]? = some v → W1.cell? (ad.add j) = some v) := fun hp => by
    rw [vbs_len] at hp
    obtain ⟨b, o, e, hlt, hc⟩ := HR.out hp
    refine ⟨rfl, ⟨b, o, none⟩, e, fun j v hv => ?_⟩
    have hj : j < L.length := by have := (List.getElem?_eq_some_iff.1 hv).1; rwa [vbs_len] at this
    rw [vbs_at hj] at hv
    rw [Addr.add_mid, Hb1.out.cell (p := ⟨b, o + j, none⟩) (by have := HBB.out; show b < _; omega), hc j hj]; exact hv
  have c3 : Hid (0 + (vbs L).length ≤ cur.length) := show 0 + (vbs L).length ≤ cur.length by rw [vbs_len, HCl.out]; omega
  clear hW1 hB1 hb1 hmk
  go_upto_region 3 with (refine wpList_copy_splice (o := ⟨some 17, _, _, _, _, _⟩) rfl (.tmp 15) (.tmp 16) 22 22 rfl 5 Try.underlying22 (by kernel_rfl) (some ⟨w.heap.size, 0, none⟩) A L.length (L.length + (1 + m)) L.length cap rfl rfl w.heap.size 0 cur 5 HB1.out (vbs L) c1.out c2.out c3.out (vbs_one L) w.heap.size w Hb1.out (Nat.le_refl _) ?_; intro w2 hB2 hb2)
  have hO : OB w2 w.heap.size (.slice (some ⟨w.heap.size, 0, none⟩) L.length (L.length + (1 + m))) L := ob_of_splice HCl.out (by unfold maxLen; omega) hB2
  have HO := Lib.hid (hO.alloc (.cells #[.int .u8 (Bt x0)] 5))
  have Hb2 := Lib.hid (hb2.alloc hb2.size (.cells #[.int .u8 (Bt x0)] 5))
  have hs := Lib.hid (src_one w2 x0)
  have HSz : Hid (w.heap.size ≤ (w2.alloc (.cells #[.int .u8 (Bt x0)] 5)).heap.size) := Hb2.out.size
  have HLe : Hid (L.length + [x0].length ≤ 140737488355328) := show L.length + [x0].length ≤ 140737488355328 by simp; omega
  clear hO hb2 hB2 HB1 Hb1 c1 c2 c3 HR HCl
  go_upto_region 4 with (first
    | (go_at_call 52; (with_reducible refine (K25.out _).mono ?_); rintro e w' ⟨rfl, rfl⟩; dsimp only)
    | (refine wpList_push (o := ⟨some 22, _, _, _, _, _⟩) rfl (.tmp 18) (.tmp 21) rfl rfl w.heap.size _ _ [x0] rfl HO.out (some ⟨w2.heap.size, 0, none⟩) 1 1 rfl (one_len _) hs.out (fun h => by cases h) HLe.out Hb2.out HSz.out (Nat.le_refl _) ?_; intro v3 w3 h1 h2 h3))
  have HO3 := Lib.hid h1
  have HB3 := Lib.hid h2
  clear h1 h2 h3 HO Hb2 hs HSz HLe
  go_wp2_with (first
    | (go_at_call 52; (with_reducible refine (K25.out _).mono ?_); rintro e w' ⟨rfl, rfl⟩; dsimp only)
    | (go_at_call 53; (with_reducible refine (K26.out _).mono ?_); rintro e w' ⟨rfl, rfl⟩; dsimp only))
  go_loopw [5, 26] (fun v i wq => ∃ j : Nat, j ≤ m ∧ i = .int .i64 j ∧ OB wq w.heap.size v (L ++ ([x0] ++ les n j)) ∧ Below w.heap.size w wq) (fun _ i _ => m - (intOf i).toNat)
  case atStart => exact ⟨0, Nat.zero_le _, rfl, by simpa [les] using HO3.out, HB3.out⟩
  case round =>
    obtain ⟨j, hj, rfl, ho, hb⟩ := hrel
    by_cases hlt : j < m
    · have h0 : (0 : Int) ≤ (j : Int) := by omega
      have hmin2 : min (8 * j) 64 = 8 * j := by omega
      have hbv := byte_val n j
      obtain ⟨x, hx⟩ : ∃ x, x = BitVec.ofNat 8 (n / 2 ^ (8 * j)) := ⟨_, rfl⟩
      rw [← hx] at hbv
      have Hx := Lib.hid hx
      have HOo := Lib.hid (ho.alloc (.cells #[.int .u8 (Bt x)] 5))
      have hs := Lib.hid (src_one wr x)
      have HBo := Lib.hid (hb.alloc hb.size (.cells #[.int .u8 (Bt x)] 5))
      have HSz : Hid (w.heap.size ≤ (wr.alloc (.cells #[.int .u8 (Bt x)] 5)).heap.size) := HBo.out.size
      have HLe : Hid ((L ++ ([x0] ++ les n j)).length + [x].length ≤ 140737488355328) := show (L ++ ([x0] ++ les n j)).length + [x].length ≤ 140737488355328 by rw [List.length_append, List.length_append, les_len]; simp; omega
      clear ho hb hx
      go_wp2_with (refine wpList_push (o := ⟨some 36, _, _, _, _, _⟩) rfl (.tmp 29) (.tmp 35) rfl rfl w.heap.size _ _ [x] rfl HOo.out (some ⟨wr.heap.size, 0, none⟩) 1 1 rfl (one_len _) hs.out (fun h => by cases h) HLe.out HBo.out HSz.out (Nat.le_refl _) ?_; intro v' w' h1 h2 h3)
      go_roundw
      case rel => exact ⟨j + 1, by omega, by go_num, by rw [les_succ, ← Hx.out]; simpa [List.append_assoc] using h1, h2⟩
      case measure => simp [intOf]; omega
    · obtain rfl : j = m := by omega
      have HOo := Lib.hid ho
      have HBo := Lib.hid hb
      clear ho hb
      go_wp2
      go_ret
      exact ⟨_, rfl, by rw [HF.out]; exact HOo.out, HBo.out⟩
end Go.Proofs.Ytpamepkcbhoiaaa
