/- What sha.padded returns: the rest, the mark, noughts and the length, for a rest of at most 63 bytes. -/
import Derived.Test.YtjbjkddgefiicaaDoorB
import Derived.Laws.CopyOwn
import Derived.Laws.Rows
import Derived.Deep.DeepCutAuto
import Derived.Deep.CutRange
namespace Go.Proofs.YtjbjkddgefiicaaDoor
open Go.RowKit
set_option linter.unusedVariables false
set_option linter.unusedSimpArgs false
theorem Blk.range {w : World} {b : Nat} {T : TypeId} {vs : List Value} (h : Blk w b T vs) : w.rangeAt b 0 vs := fun j v hv => by
  rw [Nat.zero_add]; exact h.cell hv
theorem Blk.there {w : World} {b : Nat} {T : TypeId} {vs : List Value} (h : Blk w b T vs) : w.there b 0 vs.length := fun j hj => by
  rw [Nat.zero_add]
  exact ⟨by rw [h.cell (List.getElem?_eq_getElem hj)]; rfl, h.free j⟩
theorem Blk.setCells_at (b : Nat) (T : TypeId) : ∀ (us cur pre : List Value) (w : World), us.length = cur.length → Blk w b T (pre ++ cur) → Blk (w.setCells b pre.length us) b T (pre ++ us)
  | [], [], _, _, _, h => h
  | [], _ :: _, _, _, hl, _ => by simp at hl
  | _ :: _, [], _, _, hl, _ => by simp at hl
  | u :: us, c :: cur, pre, w, hl, h => by
    have h1 := h.set pre.length u
    have e : (pre ++ c :: cur).set pre.length u = (pre ++ [u]) ++ cur := by simp
    rw [e] at h1
    have h2 := Blk.setCells_at b T us cur (pre ++ [u]) _ (by simpa using hl) h1
    simpa [World.setCells] using h2
theorem Blk.setCells {w : World} {b : Nat} {T : TypeId} {vs : List Value} (h : Blk w b T vs) (us : List Value) (hl : us.length = vs.length) : Blk (w.setCells b 0 us) b T us :=
  Blk.setCells_at b T us vs [] w hl h
theorem below_setCells {B b : Nat} (hB : B ≤ b) {w0 : World} : ∀ (us : List Value) (o : Nat) (w : World), Below B w0 w → Below B w0 (w.setCells b o us)
  | [], _, _, h => h
  | u :: us, o, w, h => below_setCells hB us (o + 1) _ (h.setCell hB u)
theorem Blk.other_setCells {b' b : Nat} {T : TypeId} {vs : List Value} (hb : b ≠ b') : ∀ (us : List Value) (o : Nat) (w : World), Blk w b T vs → Blk (w.setCells b' o us) b T vs
  | [], _, _, h => h
  | u :: us, o, w, h => Blk.other_setCells hb us (o + 1) _ (h.other hb u)
theorem Blk.load {w : World} {b : Nat} {T : TypeId} {vs : List Value} (h : Blk w b T vs) {P : Program} (ty : TypeId) {d : TypeDesc} (hu : P.underlying ty = some d) (hd : d.isRow = true) {n : Nat} (hi : (P.info? ty).map (·.size) = some n) (hn : vs.length = n) :
    (Instr.loadAt ty (.pointer (some ⟨b, 0, none⟩))).run P w = .ok (.agg vs.toArray) w := run_loadAt_mid w b 0 ty vs d h.range hu hd (by rw [hn]; exact hi)
theorem Blk.store {w : World} {b : Nat} {T : TypeId} {vs : List Value} (h : Blk w b T vs) {P : Program} (ty : TypeId) (us : List Value) {n : Nat} (hi : (P.info? ty).map (·.size) = some n) (hn : vs.length = n) (hl : us.length = n) (h1 : ∀ v ∈ us, v.oneCell' = true) :
    (Instr.storeAt ty (.pointer (some ⟨b, 0, none⟩)) (.agg us.toArray)).run P w = .ok () (w.setCells b 0 us) := by
  have := run_storeAt_mid w b 0 ty us.toArray (P := P) (by rw [List.size_toArray, hl, ← hn]; exact h.there) (by rw [List.size_toArray, hl]; exact hi) (all_oneCell_toArray h1)
  simpa using this
def vbs (l : List (BitVec 8)) : List Value := l.map fun x => Value.int .u8 (Bt x)
theorem vbs_at {l : List (BitVec 8)} {j : Nat} (h : j < l.length) : (vbs l)[j]? = some (.int .u8 (Bt (l.getD j 0))) := by
  unfold vbs; simp [h]
/-- The slice with address A reads as the bytes R, and lies below block B. -/
def Rd (w : World) (B : Nat) (A : Option Addr) (R : List (BitVec 8)) : Prop :=
  0 < R.length → ∃ b o, A = some ⟨b, o, none⟩ ∧ b < B ∧ ∀ j, j < R.length → w.cell? ⟨b, o + j, none⟩ = some (.int .u8 (Bt (R.getD j 0)))
theorem Rd.keep {w w' : World} {B : Nat} {A : Option Addr} {R : List (BitVec 8)} (h : Rd w B A R) (hb : Below B w w') : Rd w' B A R := fun hp => by
  obtain ⟨b, o, e, hlt, hc⟩ := h hp
  exact ⟨b, o, e, hlt, fun j hj => by rw [hb.cell (p := ⟨b, o + j, none⟩) hlt]; exact hc j hj⟩
def lenByte (len k : Nat) : BitVec 8 := BitVec.ofNat 8 (8 * len / 2 ^ (8 * k))
/-- The end behind k of its length's bytes. -/
def padK (E : List (BitVec 8)) (last len : Nat) : Nat → List (BitVec 8)
  | 0 => E
  | k + 1 => (padK E last len k).set (last - k) (lenByte len k)
theorem padK_len (E : List (BitVec 8)) (last len k : Nat) : (padK E last len k).length = E.length := by
  induction k with
  | zero => rfl
  | succ k ih => unfold padK; rw [List.length_set, ih]
/-- The bytes, a mark, noughts. -/
def padE (R : List (BitVec 8)) : List (BitVec 8) := (R ++ List.replicate (128 - R.length) 0).set R.length 0x80
def manyOf (n : Nat) : Nat := if n + 9 ≤ 64 then 1 else 2
def padEnd (R : List (BitVec 8)) (len : Nat) : List (BitVec 8) := padK (padE R) (64 * manyOf R.length - 1) len 8
theorem padE_len (R : List (BitVec 8)) (h : R.length ≤ 63) : (padE R).length = 128 := by simp [padE]; omega
theorem padEnd_len (R : List (BitVec 8)) (len : Nat) (h : R.length ≤ 63) : (padEnd R len).length = 128 := by unfold padEnd; rw [padK_len, padE_len R h]
theorem vbs_set (l : List (BitVec 8)) (j : Nat) (x : BitVec 8) : (vbs l).set j (.int .u8 (Bt x)) = vbs (l.set j x) := by
  unfold vbs; rw [List.map_set]
theorem vbs_len (l : List (BitVec 8)) : (vbs l).length = l.length := by simp [vbs]
theorem splice_pad (n : Nat) (R : List (BitVec 8)) : splice (vbs (List.replicate n 0)) 0 (vbs R) = vbs (R ++ List.replicate (n - R.length) 0) := by
  simp [splice, vbs]
theorem vbs_one (l : List (BitVec 8)) : ∀ v ∈ vbs l, v.oneCell' = true := by
  intro v hv
  simp only [vbs, List.mem_map] at hv
  obtain ⟨x, _, rfl⟩ := hv
  rfl
theorem info55 : (Tryd.prog.info? 55).map (·.size) = some 128 := by kernel_rfl
theorem i55 {vs : List Value} (h : vs.length = 128) : (Tryd.prog.info? 55).map (·.size) = some vs.length := by rw [h]; exact info55
theorem there_arr {w : World} {b n : Nat} {vs : List Value} (h : w.there b 0 n) (hl : vs.length = n) : w.there b 0 vs.toArray.size := by rw [List.size_toArray, hl]; exact h
theorem info_arr {x : Option Nat} {vs : List Value} (h : x = some vs.length) : x = some vs.toArray.size := by rw [List.size_toArray]; exact h
theorem slice55 (b : Nat) (w : World) : (Instr.sliceAt 55 (.pointer (some ⟨b, 0, none⟩)) none none none).run Tryd.prog w = .ok (.slice (some ⟨b, 0, none⟩) 128 128) w := by
  rw [run_sliceAt_array_all w 55 _ (by kernel_rfl)]
  have hs : (sizeOf (Tryd.prog.elem 55)).run Tryd.prog w = .ok 1 w := by kernel_rfl
  have hl : Tryd.prog.arrayLen 55 = 128 := by kernel_rfl
  rw [hs, hl]
  rfl
/-- What holds at the head of each round of the loop over the length's bytes. -/
def RelP (w : World) (E : List (BitVec 8)) (last len : Nat) (i : Value) (wq : World) : Prop :=
  ∃ k : Nat, k ≤ 8 ∧ i = .int .i64 k ∧ Below w.heap.size w wq ∧ Blk wq w.heap.size 55 (vbs (padK E last len k))
theorem RelP.step {w W : World} {E : List (BitVec 8)} {last len k : Nat} (hk : k < 8) (hb : Below w.heap.size w W) (hB : Blk W w.heap.size 55 (vbs (padK E last len k))) :
    RelP w E last len (.int .i64 ((k : Int) + 1)) (W.setCell ⟨w.heap.size, last - k, none⟩ (.int .u8 (Bt (lenByte len k)))) :=
  ⟨k + 1, by omega, by simp, hb.setCell (Nat.le_refl _) _, by have := hB.set (last - k) (.int .u8 (Bt (lenByte len k))); rwa [vbs_set] at this⟩
theorem lenByte_val (len k : Nat) (hk : k < 8) : IntKind.u8.wrap (8 * (len : Int) / 2 ^ (8 * k)) = Bt (lenByte len k) := by
  rw [IntKind.wrap_u8']
  unfold Bt lenByte
  rw [BitVec.toNat_ofNat]
  have : (8 * (len : Int) / 2 ^ (8 * k)) = ((8 * len / 2 ^ (8 * k) : Nat) : Int) := by simp
  rw [this]
  omega
set_option maxRecDepth 100000 in
set_option maxHeartbeats 1000000 in
theorem padded_any (A : Option Addr) (cap len : Nat) (R : List (BitVec 8)) (w : World) (hR : Rd w w.heap.size A R) (hn : R.length ≤ 63) (hl : len < 1152921504606846976) :
    Calls Tryd.prog 33 #[.slice A R.length cap, .int .u64 len] w fun e w' => e = .returned (.tuple #[.agg (vbs (padEnd R len)).toArray, .int .i64 (manyOf R.length)]) ∧ Below w.heap.size w w' := by
  have hz : ∀ w, (zeroValue 55).run Tryd.prog w = .ok (.agg (vbs (List.replicate 128 0)).toArray) w := fun _ => by kernel_rfl
  have HR := Lib.hid hR
  clear hR
  by_cases hm : R.length + 9 ≤ 64
  · have e1 : padEnd R len = padK (padE R) 63 len 8 := by unfold padEnd manyOf; rw [if_pos hm]
    have e2 : manyOf R.length = 1 := by unfold manyOf; rw [if_pos hm]
    rw [e1, e2]
    clear e1 e2
    go_enter Tryd.func33, Tryd.ntmps33
    go_upto_region 1 with fail
    generalize hw1 : w.alloc _ = w1
    have hB : Hid (w1.heap[w.heap.size]? = some (.cells (vbs (List.replicate 128 0)).toArray 55 (0, 0))) := by
      have := Blk.new w 55 (vbs (List.replicate 128 0)).toArray
      rw [← hw1]; exact this
    have hbel : Below w.heap.size w w1 := by rw [← hw1]; exact (Below.refl _ _).alloc (Nat.le_refl _) _
    clear hw1 hz
    go_upto_region 4 with fail
    have hsl := slice55 w.heap.size w1
    have c1 : Hid ((vbs R).length = Nat.min R.length 128) := show (vbs R).length = min R.length 128 by rw [vbs_len]; omega
    have c2 : Hid (0 < (vbs R).length → (some (⟨w.heap.size, 0, none⟩ : Addr)) = some ⟨w.heap.size, 0, none⟩ ∧ ∃ ad, A = some ad ∧ ∀ j v, (vbs R)[j]? = some v → w1.cell? (ad.add j) = some v) := fun hp => by
      rw [vbs_len] at hp
      obtain ⟨b, o, e, hlt, hc⟩ := HR.out hp
      refine ⟨rfl, ⟨b, o, none⟩, e, fun j v hv => ?_⟩
      have hj : j < R.length := by have := (List.getElem?_eq_some_iff.1 hv).1; rwa [vbs_len] at this
      rw [vbs_at hj] at hv
      have ha : (⟨b, o, none⟩ : Addr).add j = ⟨b, o + j, none⟩ := by unfold Addr.add; split <;> simp_all
      rw [ha, hbel.cell (p := ⟨b, o + j, none⟩) hlt, hc j hj]; exact hv
    have c3 : Hid (0 + (vbs R).length ≤ (vbs (List.replicate 128 0)).length) := show 0 + (vbs R).length ≤ (vbs (List.replicate 128 0)).length by rw [vbs_len, vbs_len, List.length_replicate]; omega
    go_upto_region 5 with (with_reducible refine wpList_copy_splice (o := ⟨some 15, _, _, _, _, _⟩) rfl (.tmp 13) (.tmp 14) 22 22 rfl 5 Tryd.underlying22 (by kernel_rfl) (some ⟨w.heap.size, 0, none⟩) A 128 128 R.length cap rfl rfl w.heap.size 0 (vbs (List.replicate 128 0)) 55 hB.out (vbs R) c1.out c2.out c3.out (vbs_one R) w.heap.size w hbel (Nat.le_refl _) ?_; intro w2 hB2 hb2)
    have hB3 : Blk w2 w.heap.size 55 (vbs (R ++ List.replicate (128 - R.length) 0)) := by rw [← splice_pad]; exact hB2
    have hE : (R ++ List.replicate (128 - R.length) (0 : BitVec 8)).length = 128 := by simp; omega
    have st := hB3.cell (vbs_at (l := R ++ List.replicate (128 - R.length) 0) (j := R.length) (by omega))
    have sf := hB3.free R.length
    have i0 : (0 : Int) ≤ (R.length : Int) := by omega
    have i1 : (R.length : Int) < 128 := by omega
    have H4 : Hid (Blk (w2.setCell ⟨w.heap.size, R.length, none⟩ (.int .u8 128)) w.heap.size 55 (vbs (padE R))) := by
      have := hB3.set R.length (.int .u8 (Bt 0x80)); rw [vbs_set] at this; exact this
    have hb4 : Below w.heap.size w (w2.setCell ⟨w.heap.size, R.length, none⟩ (.int .u8 128)) := hb2.setCell (Nat.le_refl _) _
    have HB4 := Lib.hid hb4
    clear hB hB2 hB3 hE hsl c1 c2 c3 hbel hb2 hb4
    go_wp2_with fail
    go_loopw [22] (fun i wq => RelP w (padE R) 63 len i wq) (fun i _ => 8 - (intOf i).toNat)
    case atStart => exact ⟨0, Nat.zero_le _, rfl, HB4.out, H4.out⟩
    case round =>
      obtain ⟨k, hk, rfl, hbw, hBw⟩ := hrel
      have HB := Lib.hid hbw
      have HW := Lib.hid hBw
      by_cases hlt : k < 8
      · have st2 := hBw.cell (vbs_at (l := padK (padE R) 63 len k) (j := 63 - k) (by rw [padK_len, padE_len R hn]; omega))
        have sf2 := hBw.free (63 - k)
        have k0 : (0 : Int) ≤ (k : Int) := by omega
        have k1 : (k : Int) < 8 := by omega
        have hv := lenByte_val len k hlt
        have hmin : min (8 * k) 64 = 8 * k := by omega
        clear hbw hBw
        go_wp2_with fail
        go_roundw
        case rel => exact RelP.step hlt HB.out HW.out
        case measure => simp [intOf]; omega
      · obtain rfl : k = 8 := by omega
        have hlen : (vbs (padK (padE R) 63 len 8)).length = 128 := by rw [vbs_len, padK_len, padE_len R hn]
        have i1 := i55 hlen
        have hr := hBw.range
        have ht := hBw.there
        rw [hlen] at ht
        have HI := Lib.hid i1
        have HL := Lib.hid hlen
        have HRg := Lib.hid hr
        have HTh := Lib.hid ht
        clear hbw hBw hlen i1 hr ht
        go_wp2_with (first | (with_reducible refine wpList_load_mid rfl 55 (.tmp 4) rfl w.heap.size 0 rfl (vbs (padK (padE R) 63 len 8)) _ HRg.out Tryd.underlying55 rfl HI.out ?_) | (with_reducible refine wpList_store_mid rfl 55 (.tmp 4) (.tmp 36) rfl w.heap.size 0 (vbs (padK (padE R) 63 len 8)).toArray rfl rfl (there_arr HTh.out HL.out) (info_arr HI.out) (all_oneCell_toArray (vbs_one _)) ?_))
        have hS := HW.out.setCells (vbs (padK (padE R) 63 len 8)) rfl
        have hSb := below_setCells (Nat.le_refl _) (vbs (padK (padE R) 63 len 8)) 0 wr HB.out
        generalize wr.setCells w.heap.size 0 (vbs (padK (padE R) 63 len 8)) = W8 at hS hSb
        have hlv := run_loadVar_mid (P := Tryd.prog) W8 w.heap.size 0 55 _ _ hS.range Tryd.underlying55 rfl HI.out
        exact bodyPost_ret (v := .tuple #[.agg (vbs (padK (padE R) 63 len 8)).toArray, .int .i64 1]) (by simp [results, Tryd.results33, asAddr, hlv]) rfl ⟨rfl, hSb⟩
  · have e1 : padEnd R len = padK (padE R) 127 len 8 := by unfold padEnd manyOf; rw [if_neg hm]
    have e2 : manyOf R.length = 2 := by unfold manyOf; rw [if_neg hm]
    rw [e1, e2]
    clear e1 e2
    go_enter Tryd.func33, Tryd.ntmps33
    go_upto_region 1 with fail
    generalize hw1 : w.alloc _ = w1
    have hB : Hid (w1.heap[w.heap.size]? = some (.cells (vbs (List.replicate 128 0)).toArray 55 (0, 0))) := by
      have := Blk.new w 55 (vbs (List.replicate 128 0)).toArray
      rw [← hw1]; exact this
    have hbel : Below w.heap.size w w1 := by rw [← hw1]; exact (Below.refl _ _).alloc (Nat.le_refl _) _
    clear hw1 hz
    go_upto_region 4 with fail
    have hsl := slice55 w.heap.size w1
    have c1 : Hid ((vbs R).length = Nat.min R.length 128) := show (vbs R).length = min R.length 128 by rw [vbs_len]; omega
    have c2 : Hid (0 < (vbs R).length → (some (⟨w.heap.size, 0, none⟩ : Addr)) = some ⟨w.heap.size, 0, none⟩ ∧ ∃ ad, A = some ad ∧ ∀ j v, (vbs R)[j]? = some v → w1.cell? (ad.add j) = some v) := fun hp => by
      rw [vbs_len] at hp
      obtain ⟨b, o, e, hlt, hc⟩ := HR.out hp
      refine ⟨rfl, ⟨b, o, none⟩, e, fun j v hv => ?_⟩
      have hj : j < R.length := by have := (List.getElem?_eq_some_iff.1 hv).1; rwa [vbs_len] at this
      rw [vbs_at hj] at hv
      have ha : (⟨b, o, none⟩ : Addr).add j = ⟨b, o + j, none⟩ := by unfold Addr.add; split <;> simp_all
      rw [ha, hbel.cell (p := ⟨b, o + j, none⟩) hlt, hc j hj]; exact hv
    have c3 : Hid (0 + (vbs R).length ≤ (vbs (List.replicate 128 0)).length) := show 0 + (vbs R).length ≤ (vbs (List.replicate 128 0)).length by rw [vbs_len, vbs_len, List.length_replicate]; omega
    go_upto_region 5 with (with_reducible refine wpList_copy_splice (o := ⟨some 15, _, _, _, _, _⟩) rfl (.tmp 13) (.tmp 14) 22 22 rfl 5 Tryd.underlying22 (by kernel_rfl) (some ⟨w.heap.size, 0, none⟩) A 128 128 R.length cap rfl rfl w.heap.size 0 (vbs (List.replicate 128 0)) 55 hB.out (vbs R) c1.out c2.out c3.out (vbs_one R) w.heap.size w hbel (Nat.le_refl _) ?_; intro w2 hB2 hb2)
    have hB3 : Blk w2 w.heap.size 55 (vbs (R ++ List.replicate (128 - R.length) 0)) := by rw [← splice_pad]; exact hB2
    have hE : (R ++ List.replicate (128 - R.length) (0 : BitVec 8)).length = 128 := by simp; omega
    have st := hB3.cell (vbs_at (l := R ++ List.replicate (128 - R.length) 0) (j := R.length) (by omega))
    have sf := hB3.free R.length
    have i0 : (0 : Int) ≤ (R.length : Int) := by omega
    have i1 : (R.length : Int) < 128 := by omega
    have H4 : Hid (Blk (w2.setCell ⟨w.heap.size, R.length, none⟩ (.int .u8 128)) w.heap.size 55 (vbs (padE R))) := by
      have := hB3.set R.length (.int .u8 (Bt 0x80)); rw [vbs_set] at this; exact this
    have hb4 : Below w.heap.size w (w2.setCell ⟨w.heap.size, R.length, none⟩ (.int .u8 128)) := hb2.setCell (Nat.le_refl _) _
    have HB4 := Lib.hid hb4
    clear hB hB2 hB3 hE hsl c1 c2 c3 hbel hb2 hb4
    go_wp2_with fail
    go_loopw [22] (fun i wq => RelP w (padE R) 127 len i wq) (fun i _ => 8 - (intOf i).toNat)
    case atStart => exact ⟨0, Nat.zero_le _, rfl, HB4.out, H4.out⟩
    case round =>
      obtain ⟨k, hk, rfl, hbw, hBw⟩ := hrel
      have HB := Lib.hid hbw
      have HW := Lib.hid hBw
      by_cases hlt : k < 8
      · have st2 := hBw.cell (vbs_at (l := padK (padE R) 127 len k) (j := 127 - k) (by rw [padK_len, padE_len R hn]; omega))
        have sf2 := hBw.free (127 - k)
        have k0 : (0 : Int) ≤ (k : Int) := by omega
        have k1 : (k : Int) < 8 := by omega
        have hv := lenByte_val len k hlt
        have hmin : min (8 * k) 64 = 8 * k := by omega
        clear hbw hBw
        go_wp2_with fail
        go_roundw
        case rel => exact RelP.step hlt HB.out HW.out
        case measure => simp [intOf]; omega
      · obtain rfl : k = 8 := by omega
        have hlen : (vbs (padK (padE R) 127 len 8)).length = 128 := by rw [vbs_len, padK_len, padE_len R hn]
        have i1 := i55 hlen
        have hr := hBw.range
        have ht := hBw.there
        rw [hlen] at ht
        have HI := Lib.hid i1
        have HL := Lib.hid hlen
        have HRg := Lib.hid hr
        have HTh := Lib.hid ht
        clear hbw hBw hlen i1 hr ht
        go_wp2_with (first | (with_reducible refine wpList_load_mid rfl 55 (.tmp 4) rfl w.heap.size 0 rfl (vbs (padK (padE R) 127 len 8)) _ HRg.out Tryd.underlying55 rfl HI.out ?_) | (with_reducible refine wpList_store_mid rfl 55 (.tmp 4) (.tmp 36) rfl w.heap.size 0 (vbs (padK (padE R) 127 len 8)).toArray rfl rfl (there_arr HTh.out HL.out) (info_arr HI.out) (all_oneCell_toArray (vbs_one _)) ?_))
        have hS := HW.out.setCells (vbs (padK (padE R) 127 len 8)) rfl
        have hSb := below_setCells (Nat.le_refl _) (vbs (padK (padE R) 127 len 8)) 0 wr HB.out
        generalize wr.setCells w.heap.size 0 (vbs (padK (padE R) 127 len 8)) = W8 at hS hSb
        have hlv := run_loadVar_mid (P := Tryd.prog) W8 w.heap.size 0 55 _ _ hS.range Tryd.underlying55 rfl HI.out
        exact bodyPost_ret (v := .tuple #[.agg (vbs (padK (padE R) 127 len 8)).toArray, .int .i64 2]) (by simp [results, Tryd.results33, asAddr, hlv]) rfl ⟨rfl, hSb⟩
end Go.Proofs.YtjbjkddgefiicaaDoor
