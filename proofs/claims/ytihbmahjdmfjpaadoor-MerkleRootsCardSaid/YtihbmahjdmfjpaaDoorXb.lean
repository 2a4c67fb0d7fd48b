/- What sha.changed returns. -/
import Derived.Test.YtihbmahjdmfjpaaDoorXa
import Derived.Deep.DeepCutAuto
import Derived.Deep.CutRange
namespace Go.Proofs.YtihbmahjdmfjpaaDoor
set_option maxRecDepth 100000
open Go.RowKit
set_option linter.unusedVariables false
set_option linter.unusedSimpArgs false
/-- Word j of a chunk. -/
def wordOf (C : List (BitVec 8)) (j : Nat) : BitVec 32 := num4 (C.getD (4 * j) 0) (C.getD (4 * j + 1) 0) (C.getD (4 * j + 2) 0) (C.getD (4 * j + 3) 0)
/-- The sixteen behind k rounds. -/
def fil (C : List (BitVec 8)) (k : Nat) : List (BitVec 32) := (List.range 16).map fun j => if j < k then wordOf C j else 0
theorem fil_len (C : List (BitVec 8)) (k : Nat) : (fil C k).length = 16 := by simp [fil]
theorem fil_set (C : List (BitVec 8)) (k : Nat) : (fil C k).set k (wordOf C k) = fil C (k + 1) := by
  apply List.ext_getElem
  · simp [fil]
  · intro i h1 h2
    simp only [fil, List.getElem_set, List.getElem_map, List.getElem_range]
    by_cases e : k = i
    · subst e; simp
    · simp only [e, if_false]
      by_cases h : i < k
      · rw [if_pos h, if_pos (by omega)]
      · rw [if_neg h, if_neg (by omega)]
structure C1 (w wr : World) (s : St) (C : List (BitVec 8)) (k : Nat) : Prop where
  bel : Below w.heap.size w wr
  b0 : Blk wr w.heap.size 100 (stv s).toList
  b1 : Blk wr (w.heap.size + 1) 56 (vbs C)
  b2 : Blk wr (w.heap.size + 1 + 1) 100 (vus (List.replicate 8 0))
  b3 : Blk wr (w.heap.size + 1 + 1 + 1) 113 (vus (fil C k))
theorem C1.start (w : World) (s : St) (C : List (BitVec 8)) : C1 w ((((w.alloc (Obj.cells (stv s) 100)).alloc (Obj.cells (vbs C).toArray 56)).alloc
      (Obj.cells (vus (List.replicate 8 0)).toArray 100)).alloc (Obj.cells (vus (fil C 0)).toArray 113)) s C 0 := by
  have s1 : (w.alloc (Obj.cells (stv s) 100)).heap.size = w.heap.size + 1 := by simp
  have s2 : ((w.alloc (Obj.cells (stv s) 100)).alloc (Obj.cells (vbs C).toArray 56)).heap.size = w.heap.size + 1 + 1 := by simp
  have s3 : (((w.alloc (Obj.cells (stv s) 100)).alloc (Obj.cells (vbs C).toArray 56)).alloc
      (Obj.cells (vus (List.replicate 8 0)).toArray 100)).heap.size = w.heap.size + 1 + 1 + 1 := by simp
  refine ⟨((((Below.refl _ _).alloc (Nat.le_refl _) _).alloc (by simp) _).alloc (by simp; omega) _).alloc (by simp; omega) _, ?_, ?_, ?_, ?_⟩
  · exact (((Blk.new w 100 (stv s)).alloc _).alloc _).alloc _
  · have := Blk.new (w.alloc (Obj.cells (stv s) 100)) 56 (vbs C).toArray
    rw [s1] at this
    simpa using (this.alloc _).alloc _
  · have := Blk.new ((w.alloc (Obj.cells (stv s) 100)).alloc (Obj.cells (vbs C).toArray 56)) 100 (vus (List.replicate 8 0)).toArray
    rw [s2] at this
    simpa using this.alloc _
  · have := Blk.new (((w.alloc (Obj.cells (stv s) 100)).alloc (Obj.cells (vbs C).toArray 56)).alloc (Obj.cells (vus (List.replicate 8 0)).toArray 100)) 113 (vus (fil C 0)).toArray
    rw [s3] at this
    simpa using this
theorem C1.step {w wr : World} {s : St} {C : List (BitVec 8)} {k : Nat} (h : C1 w wr s C k) (n : Nat) : C1 w ((wr.drewN n).setCell ⟨w.heap.size + 1 + 1 + 1, k, none⟩ (.int .u32 (U (wordOf C k)))) s C (k + 1) := by
  have hb : Below w.heap.size w (wr.drewN n) := ⟨h.bel.os, h.bel.tape, h.bel.output, h.bel.size, h.bel.block⟩
  refine ⟨hb.setCell (by simp; omega) _, ?_, ?_, ?_, ?_⟩
  · exact Blk.other (w := wr.drewN n) h.b0 (by simp; omega) _
  · exact Blk.other (w := wr.drewN n) h.b1 (by simp) _
  · exact Blk.other (w := wr.drewN n) h.b2 (by simp) _
  · have := Blk.set (w := wr.drewN n) h.b3 k (.int .u32 (U (wordOf C k)))
    rwa [vus_set, fil_set] at this
theorem arr28 : Tryd.prog.underlying 56 = some (.array (Tryd.prog.arrayLen 56) (Tryd.prog.elem 56)) := by kernel_rfl
theorem len28 : Tryd.prog.arrayLen 56 = 64 := by kernel_rfl
theorem slice28 (b k : Nat) (w : World) (hk : 4 * k < 64) : (Instr.sliceAt 56 (.pointer (some ⟨b, 0, none⟩)) (some (.int .i64 (4 * (k : Int)))) none none).run Tryd.prog w =
    .ok (.slice (some ⟨b, 4 * k, none⟩) (64 - 4 * k) (64 - 4 * k)) w := by
  rw [run_sliceAt_array_l w 56 _ arr28 .i64 (4 * (k : Int)) (by omega) (by rw [len28]; omega)]
  have hs : (sizeOf (Tryd.prog.elem 56)).run Tryd.prog w = .ok 1 w := by kernel_rfl
  rw [hs, len28]
  rw [show (4 * (k : Int)).toNat = 4 * k by omega]
  show Result.ok (slicedAt _ _ _ _ _) w = _
  unfold slicedAt
  rw [if_neg (by omega)]
  simp [Addr.add]
  omega
/-- The round constants. -/
def KK : List (BitVec 32) := [1116352408, 1899447441, 3049323471, 3921009573, 961987163, 1508970993, 2453635748, 2870763221, 3624381080, 310598401, 607225278, 1426881987, 1925078388, 2162078206, 2614888103, 3248222580, 3835390401, 4022224774, 264347078, 604807628, 770255983, 1249150122, 1555081692, 1996064986, 2554220882, 2821834349, 2952996808, 3210313671, 3336571891, 3584528711, 113926993, 338241895, 666307205, 773529912, 1294757372, 1396182291, 1695183700, 1986661051, 2177026350, 2456956037, 2730485921, 2820302411, 3259730800, 3345764771, 3516065817, 3600352804, 4094571909, 275423344, 430227734, 506948616, 659060556, 883997877, 958139571, 1322822218, 1537002063, 1747873779, 1955562222, 2024104815, 2227730452, 2361852424, 2428436474, 2756734187, 3204031479, 3329325298]
/-- The next number of a chunk, by its place among the last sixteen. -/
def numAt (L : List (BitVec 32)) (i : Nat) : BitVec 32 := if i < 16 then L.getD i 0 else nxt L i
def lastAt (L : List (BitVec 32)) (i : Nat) : List (BitVec 32) := if i < 16 then L else L.set (i % 16) (nxt L i)
/-- One round. -/
def rnd (s : St) (k x : BitVec 32) : St :=
  ⟨s.h + trn s.e [6, 11, 25] + (s.e &&& s.f ||| ~~~ s.e &&& s.g) + k + x + (trn s.a [2, 13, 22] + (s.a &&& s.b ||| s.a &&& s.c ||| s.b &&& s.c)), s.a, s.b, s.c,
   s.d + (s.h + trn s.e [6, 11, 25] + (s.e &&& s.f ||| ~~~ s.e &&& s.g) + k + x), s.e, s.f, s.g⟩
/-- The last sixteen and the letters behind n rounds. -/
def rounds (L : List (BitVec 32)) (s : St) : Nat → List (BitVec 32) × St
  | 0 => (L, s)
  | n + 1 => (lastAt (rounds L s n).1 n, rnd (rounds L s n).2 (KK.getD n 0) (numAt (rounds L s n).1 n))
def addSt (s t : St) : St := ⟨s.a + t.a, s.b + t.b, s.c + t.c, s.d + t.d, s.e + t.e, s.f + t.f, s.g + t.g, s.h + t.h⟩
/-- The state to which a chunk changes s. -/
def change (s : St) (C : List (BitVec 8)) : St := addSt s (rounds (fil C 16) s 64).2
theorem lastAt_len (L : List (BitVec 32)) (i : Nat) : (lastAt L i).length = L.length := by unfold lastAt; split <;> simp
theorem rounds_len (L : List (BitVec 32)) (s : St) (n : Nat) : (rounds L s n).1.length = L.length := by
  induction n with
  | zero => rfl
  | succ n ih => unfold rounds; rw [lastAt_len, ih]
structure C2 (w wr : World) (s : St) (L : List (BitVec 32)) : Prop where
  bel : Below w.heap.size w wr
  b0 : Blk wr w.heap.size 100 (stv s).toList
  b2 : Blk wr (w.heap.size + 1 + 1) 100 (vus (List.replicate 8 0))
  b3 : Blk wr (w.heap.size + 1 + 1 + 1) 113 (vus L)
theorem C2.start {w wr : World} {s : St} {C : List (BitVec 8)} (h : C1 w wr s C 16) (n : Nat) : C2 w (wr.drewN n) s (fil C 16) :=
  ⟨⟨h.bel.os, h.bel.tape, h.bel.output, h.bel.size, h.bel.block⟩, h.b0, h.b2, h.b3⟩
theorem C2.drew {w wr : World} {s : St} {L : List (BitVec 32)} (h : C2 w wr s L) : C2 w wr.drew s L := ⟨h.bel.drew, h.b0, h.b2, h.b3⟩
theorem C2.alloc {w wr : World} {s : St} {L : List (BitVec 32)} (h : C2 w wr s L) (o : Obj) : C2 w (wr.alloc o) s L := ⟨h.bel.alloc h.bel.size o, h.b0.alloc o, h.b2.alloc o, h.b3.alloc o⟩
theorem C2.grn {w wr W : World} {s : St} {L L' : List (BitVec 32)} (h : C2 w wr s L) (g : Grn wr (w.heap.size + 1 + 1 + 1) 113 (vus L') W) : C2 w W s L' :=
  ⟨g.below h.bel (by omega) h.bel.size, h.b0.grown g.grown (by simp; omega), h.b2.grown g.grown (by simp), g.blk⟩
theorem U_not' (x : BitVec 32) : bits .xor .u32 (if IntKind.u32.signed = true then -1 else IntKind.u32.max) (U x) = U (~~~ x) := by
  rw [show (if IntKind.u32.signed = true then -1 else IntKind.u32.max) = U (BitVec.allOnes 32) by rfl, U_xor, BitVec.allOnes_xor]
/-- What holds at the head of each round of the second loop. -/
def RelB (w : World) (C : List (BitVec 8)) (s : St) (a b c d e f g h i : Value) (wq : World) : Prop :=
  ∃ k : Nat, k ≤ 64 ∧ i = .int .i64 k ∧ a = .int .u32 (U (rounds (fil C 16) s k).2.a) ∧ b = .int .u32 (U (rounds (fil C 16) s k).2.b) ∧ c = .int .u32 (U (rounds (fil C 16) s k).2.c) ∧ d = .int .u32 (U (rounds (fil C 16) s k).2.d) ∧ e = .int .u32 (U (rounds (fil C 16) s k).2.e) ∧ f = .int .u32 (U (rounds (fil C 16) s k).2.f) ∧ g = .int .u32 (U (rounds (fil C 16) s k).2.g) ∧ h = .int .u32 (U (rounds (fil C 16) s k).2.h) ∧ C2 w wq s (rounds (fil C 16) s k).1
theorem RelB.step {w W : World} {C : List (BitVec 8)} {s : St} {k : Nat} {T : St} {L : List (BitVec 32)} {Kk x : BitVec 32} (hk : k < 64) (hT : T = (rounds (fil C 16) s k).2) (hL : L = (rounds (fil C 16) s k).1) (hK : Kk = KK.getD k 0)
    (hx : x = numAt L k) (h : C2 w W s (lastAt L k)) :
    RelB w C s (.int .u32 (U (T.h + trn T.e [6, 11, 25] + (T.e &&& T.f ||| ~~~ T.e &&& T.g) + Kk + x + (trn T.a [2, 13, 22] + (T.a &&& T.b ||| T.a &&& T.c ||| T.b &&& T.c))))) (.int .u32 (U T.a)) (.int .u32 (U T.b)) (.int .u32 (U T.c))
      (.int .u32 (U (T.d + (T.h + trn T.e [6, 11, 25] + (T.e &&& T.f ||| ~~~ T.e &&& T.g) + Kk + x)))) (.int .u32 (U T.e)) (.int .u32 (U T.f)) (.int .u32 (U T.g)) (.int .i64 ((k : Int) + 1)) W := by
  subst hT hL hK hx
  exact ⟨k + 1, by omega, by simp, rfl, rfl, rfl, rfl, rfl, rfl, rfl, rfl, h⟩
set_option maxRecDepth 100000 in
set_option maxHeartbeats 4000000 in
theorem changed_any (s : St) (C : List (BitVec 8)) (w : World) (hC : C.length = 64)
    (hK : ∀ i, i < 64 → w.cell? ⟨1, i, none⟩ = some (.int .u32 (U (KK.getD i 0)))) :
    Calls Tryd.prog 65 #[.agg (stv s), .agg (vbs C).toArray] w fun e w' => e = .returned (.agg (stv (change s C))) ∧ Below w.heap.size w w' := by
  have HC := Lib.hid hC
  have HK := Lib.hid hK
  clear hC hK
  go_enter Tryd.func65, Tryd.ntmps65
  go_wp2_with fail
  go_loopw [19] (fun i wr => ∃ k : Nat, k ≤ 16 ∧ i = .int .i64 k ∧ C1 w wr s C k) (fun i _ => 16 - (intOf i).toNat)
  case atStart => exact ⟨0, Nat.zero_le _, rfl, C1.start w s C⟩
  case round =>
    obtain ⟨k, hk, rfl, hrel⟩ := hrel
    by_cases hlt : k < 16
    · have hsl := slice28 (w.heap.size + 1) k wr (by omega)
      have d0 := hrel.b1.cell (vbs_at (l := C) (j := 4 * k) (by rw [HC.out]; omega))
      have d1 := hrel.b1.cell (vbs_at (l := C) (j := 4 * k + 1) (by rw [HC.out]; omega))
      have d2 := hrel.b1.cell (vbs_at (l := C) (j := 4 * k + 2) (by rw [HC.out]; omega))
      have d3 := hrel.b1.cell (vbs_at (l := C) (j := 4 * k + 3) (by rw [HC.out]; omega))
      have HN := Lib.hid (shaNumber_any (C.getD (4 * k) 0) (C.getD (4 * k + 1) 0) (C.getD (4 * k + 2) 0) (C.getD (4 * k + 3) 0) (w.heap.size + 1) (4 * k) (64 - 4 * k) (64 - 4 * k) wr (by omega) d0 d1 d2 d3)
      clear d0 d1 d2 d3
      have st := hrel.b3.cell (vus_at (l := fil C k) (j := k) (by rw [fil_len]; omega))
      have sf := hrel.b3.free k
      have HR := Lib.hid hrel
      clear hrel
      have k0 : (0 : Int) ≤ (k : Int) := by omega
      have k1 : (k : Int) < 16 := by omega
      go_wp2_with (go_at_call 76; (with_reducible refine HN.out.mono ?_); rintro e w' ⟨rfl, n, rfl⟩)
      go_roundw
      case rel => exact ⟨k + 1, by omega, by go_num, C1.step HR.out n⟩
      case measure => simp [intOf]; omega
    · obtain rfl : k = 16 := by omega
      have HR := Lib.hid hrel
      have q0 := hrel.b0.cell (j := 0) (v := .int .u32 (U s.a)) rfl
      have q1 := hrel.b0.cell (j := 1) (v := .int .u32 (U s.b)) rfl
      have q2 := hrel.b0.cell (j := 2) (v := .int .u32 (U s.c)) rfl
      have q3 := hrel.b0.cell (j := 3) (v := .int .u32 (U s.d)) rfl
      have q4 := hrel.b0.cell (j := 4) (v := .int .u32 (U s.e)) rfl
      have q5 := hrel.b0.cell (j := 5) (v := .int .u32 (U s.f)) rfl
      have q6 := hrel.b0.cell (j := 6) (v := .int .u32 (U s.g)) rfl
      have q7 := hrel.b0.cell (j := 7) (v := .int .u32 (U s.h)) rfl
      clear hrel
      go_wp2_with fail
      go_quiet (fail)
      go_wp2_with fail
      have HS := Lib.hid (C2.start HR.out nq)
      clear HR q0 q1 q2 q3 q4 q5 q6 q7
      obtain ⟨w2, hw2⟩ : ∃ w2, w2 = wr.drewN nq := ⟨_, rfl⟩
      go_loopw [8, 9, 10, 11, 12, 13, 14, 15, 46] (fun a b c d e f g h i wq => RelB w C s a b c d e f g h i wq) (fun _ _ _ _ _ _ _ _ i _ => 64 - (intOf i).toNat)
      case atStart => exact ⟨0, Nat.zero_le _, rfl, rfl, rfl, rfl, rfl, rfl, rfl, rfl, rfl, HS.out⟩
      case round =>
        obtain ⟨k, hk, rfl, rfl, rfl, rfl, rfl, rfl, rfl, rfl, rfl, hrel⟩ := hrel
        clear hw2
        by_cases hlt : k < 64
        · have hl1 : 1 < w.heap.size := World.block_lt_of_cell? w _ (HK.out 0 (by omega))
          have hcK : wr.cell? ⟨1, k, none⟩ = some (.int .u32 (U (KK.getD k 0))) := by
            rw [hrel.bel.cell (p := ⟨1, k, none⟩) hl1]; exact HK.out k hlt
          have hadd : ∀ x y : BitVec 32, IntKind.u32.wrap (U x + U y) = U (x + y) := fun x y => by rw [IntKind.wrap_u32']; exact U_add x y
          have hadd' : ∀ x y : BitVec 32, (U x + U y) % (4294967296 : Int) = U (x + y) := fun x y => U_add x y
          have hand := U_and
          have hor := U_or
          have hnot := U_not'
          have k0 : (0 : Int) ≤ (k : Int) := by omega
          have k1 : (k : Int) < 64 := by omega
          obtain ⟨T, hT⟩ : ∃ T, T = (rounds (fil C 16) s k).2 := ⟨_, rfl⟩
          obtain ⟨L, hL⟩ : ∃ L, L = (rounds (fil C 16) s k).1 := ⟨_, rfl⟩
          obtain ⟨Kk, hKk⟩ : ∃ Kk, Kk = KK.getD k 0 := ⟨_, rfl⟩
          have HT := Lib.hid hT
          have HL := Lib.hid hL
          have HKk := Lib.hid hKk
          rw [← hL] at hrel
          rw [← hKk] at hcK
          have HR := Lib.hid hrel
          have Hlen := Lib.hid (show L.length = 16 by rw [hL, rounds_len, fil_len])
          rw [← hT]
          clear hL hT hKk hrel
          by_cases h16 : k < 16
          · go_wp2_with fail
            refine wp_calm ?_
            go_region_held3 (fun w' => w'.cell? ⟨1, k, none⟩ = some (.int .u32 (U Kk))) (first | exact hcK | exact cell_alloc _ hcK)
              (first | (go_at_call 78; (with_reducible refine (turned3 T.e 6 11 25 _ _ _ ?_ ?_ ?_ (by decide)).mono ?_); (exact cell_new (by simp) rfl); (exact cell_new (by simp) rfl); (exact cell_new (by simp) rfl); rintro e w' ⟨rfl, rfl⟩; dsimp only) | (go_at_call 77; (with_reducible refine (next_lt L k _ _ ?_ ?_ ?_).mono ?_); (exact Hlen.out); (exact h16); (exact Blk.alloc (Blk.drew HR.out.b3) _); rintro e w' ⟨rfl, rfl⟩; dsimp only))
            go_upto_region 15 with (go_at_call 78; (with_reducible refine (turned3 T.a 2 13 22 _ _ _ ?_ ?_ ?_ (by decide)).mono ?_); (exact cell_new (by simp) rfl); (exact cell_new (by simp) rfl); (exact cell_new (by simp) rfl); rintro e w' ⟨rfl, rfl⟩; dsimp only)
            repeat (first | go_skip | go_guarded | go_step | go_upon | go_back)
            refine ⟨?_, ?_⟩
            · (repeat apply Exists.intro)
              refine ⟨?_, rfl⟩
              exact RelB.step hlt HT.out HL.out HKk.out (by unfold numAt; rw [if_pos h16]; rfl) (by unfold lastAt; rw [if_pos h16]; exact ((HR.out.alloc _).alloc _).drew)
            · simp [intOf]; omega
          · go_wp2_with fail
            refine wp_calm ?_
            go_region_held3 (fun w' => w'.cell? ⟨1, k, none⟩ = some (.int .u32 (U Kk))) (first | exact hcK | exact cell_alloc _ hcK | exact hg.grown.cell (cell_alloc _ hcK) (by simp))
              (first | (go_at_call 78; (with_reducible refine (turned3 T.e 6 11 25 _ _ _ ?_ ?_ ?_ (by decide)).mono ?_); (exact cell_new (by simp) rfl); (exact cell_new (by simp) rfl); (exact cell_new (by simp) rfl); rintro e w' ⟨rfl, rfl⟩; dsimp only) | (go_at_call 77; (with_reducible refine (next_ge L k _ _ ?_ ?_ ?_ ?_).mono ?_); (exact Hlen.out); (exact Nat.le_of_not_lt h16); (exact hlt); (exact Blk.alloc (Blk.drew HR.out.b3) _); rintro e w1 ⟨rfl, hg⟩; dsimp only))
            go_upto_region 15 with (go_at_call 78; (with_reducible refine (turned3 T.a 2 13 22 _ _ _ ?_ ?_ ?_ (by decide)).mono ?_); (exact cell_new (by simp) rfl); (exact cell_new (by simp) rfl); (exact cell_new (by simp) rfl); rintro e w' ⟨rfl, rfl⟩; dsimp only)
            repeat (first | go_skip | go_guarded | go_step | go_upon | go_back)
            refine ⟨?_, ?_⟩
            · (repeat apply Exists.intro)
              refine ⟨?_, rfl⟩
              exact RelB.step hlt HT.out HL.out HKk.out (by unfold numAt; rw [if_neg h16]) (by unfold lastAt; rw [if_neg h16]; exact (C2.grn (C2.alloc (C2.drew HR.out) _) hg).alloc _)
            · simp [intOf]; omega
        · obtain rfl : k = 64 := by omega
          have HR := Lib.hid hrel
          have q0 := hrel.b0.cell (j := 0) (v := .int .u32 (U s.a)) rfl
          have q1 := hrel.b0.cell (j := 1) (v := .int .u32 (U s.b)) rfl
          have q2 := hrel.b0.cell (j := 2) (v := .int .u32 (U s.c)) rfl
          have q3 := hrel.b0.cell (j := 3) (v := .int .u32 (U s.d)) rfl
          have q4 := hrel.b0.cell (j := 4) (v := .int .u32 (U s.e)) rfl
          have q5 := hrel.b0.cell (j := 5) (v := .int .u32 (U s.f)) rfl
          have q6 := hrel.b0.cell (j := 6) (v := .int .u32 (U s.g)) rfl
          have q7 := hrel.b0.cell (j := 7) (v := .int .u32 (U s.h)) rfl
          have r0 := hrel.b2.cell (j := 0) (v := .int .u32 (U 0)) rfl
          have r1 := hrel.b2.cell (j := 1) (v := .int .u32 (U 0)) rfl
          have r2 := hrel.b2.cell (j := 2) (v := .int .u32 (U 0)) rfl
          have r3 := hrel.b2.cell (j := 3) (v := .int .u32 (U 0)) rfl
          have r4 := hrel.b2.cell (j := 4) (v := .int .u32 (U 0)) rfl
          have r5 := hrel.b2.cell (j := 5) (v := .int .u32 (U 0)) rfl
          have r6 := hrel.b2.cell (j := 6) (v := .int .u32 (U 0)) rfl
          have r7 := hrel.b2.cell (j := 7) (v := .int .u32 (U 0)) rfl
          have f0 := fun j => hrel.b2.free j
          have hadd' : ∀ x y : BitVec 32, (U x + U y) % (4294967296 : Int) = U (x + y) := fun x y => U_add x y
          have hl2 := hrel.b2.lt
          clear hrel
          go_wp2_with fail
          have hS : C2 w wr s (rounds (fil C 16) s 64).1 := HR.out
          have hB : Blk ((((((((wr.setCell { block := w.heap.size + 1 + 1, off := 0 } (Value.int IntKind.u32 (U (s.a + (rounds (fil C 16) s 64).snd.a)))).setCell { block := w.heap.size + 1 + 1, off := 1 } (Value.int IntKind.u32 (U (s.b + (rounds (fil C 16) s 64).snd.b)))).setCell
              { block := w.heap.size + 1 + 1, off := 2 } (Value.int IntKind.u32 (U (s.c + (rounds (fil C 16) s 64).snd.c)))).setCell { block := w.heap.size + 1 + 1, off := 3 } (Value.int IntKind.u32 (U (s.d + (rounds (fil C 16) s 64).snd.d)))).setCell
              { block := w.heap.size + 1 + 1, off := 4 } (Value.int IntKind.u32 (U (s.e + (rounds (fil C 16) s 64).snd.e)))).setCell { block := w.heap.size + 1 + 1, off := 5 } (Value.int IntKind.u32 (U (s.f + (rounds (fil C 16) s 64).snd.f)))).setCell
              { block := w.heap.size + 1 + 1, off := 6 } (Value.int IntKind.u32 (U (s.g + (rounds (fil C 16) s 64).snd.g)))).setCell { block := w.heap.size + 1 + 1, off := 7 } (Value.int IntKind.u32 (U (s.h + (rounds (fil C 16) s 64).snd.h)))) (w.heap.size + 1 + 1) 100 (stv (change s C)).toList :=
            (((((((hS.b2.set 0 _).set 1 _).set 2 _).set 3 _).set 4 _).set 5 _).set 6 _).set 7 _
          have hBl : Below w.heap.size w ((((((((wr.setCell { block := w.heap.size + 1 + 1, off := 0 } (Value.int IntKind.u32 (U (s.a + (rounds (fil C 16) s 64).snd.a)))).setCell { block := w.heap.size + 1 + 1, off := 1 } (Value.int IntKind.u32 (U (s.b + (rounds (fil C 16) s 64).snd.b)))).setCell
              { block := w.heap.size + 1 + 1, off := 2 } (Value.int IntKind.u32 (U (s.c + (rounds (fil C 16) s 64).snd.c)))).setCell { block := w.heap.size + 1 + 1, off := 3 } (Value.int IntKind.u32 (U (s.d + (rounds (fil C 16) s 64).snd.d)))).setCell
              { block := w.heap.size + 1 + 1, off := 4 } (Value.int IntKind.u32 (U (s.e + (rounds (fil C 16) s 64).snd.e)))).setCell { block := w.heap.size + 1 + 1, off := 5 } (Value.int IntKind.u32 (U (s.f + (rounds (fil C 16) s 64).snd.f)))).setCell
              { block := w.heap.size + 1 + 1, off := 6 } (Value.int IntKind.u32 (U (s.g + (rounds (fil C 16) s 64).snd.g)))).setCell { block := w.heap.size + 1 + 1, off := 7 } (Value.int IntKind.u32 (U (s.h + (rounds (fil C 16) s 64).snd.h)))) :=
            (((((((hS.bel.setCell (by simp; omega) _).setCell (by simp; omega) _).setCell (by simp; omega) _).setCell (by simp; omega) _).setCell (by simp; omega) _).setCell (by simp; omega) _).setCell (by simp; omega) _).setCell (by simp; omega) _
          revert hB hBl
          generalize ((((((((wr.setCell { block := w.heap.size + 1 + 1, off := 0 } (Value.int IntKind.u32 (U (s.a + (rounds (fil C 16) s 64).snd.a)))).setCell { block := w.heap.size + 1 + 1, off := 1 } (Value.int IntKind.u32 (U (s.b + (rounds (fil C 16) s 64).snd.b)))).setCell
              { block := w.heap.size + 1 + 1, off := 2 } (Value.int IntKind.u32 (U (s.c + (rounds (fil C 16) s 64).snd.c)))).setCell { block := w.heap.size + 1 + 1, off := 3 } (Value.int IntKind.u32 (U (s.d + (rounds (fil C 16) s 64).snd.d)))).setCell
              { block := w.heap.size + 1 + 1, off := 4 } (Value.int IntKind.u32 (U (s.e + (rounds (fil C 16) s 64).snd.e)))).setCell { block := w.heap.size + 1 + 1, off := 5 } (Value.int IntKind.u32 (U (s.f + (rounds (fil C 16) s 64).snd.f)))).setCell
              { block := w.heap.size + 1 + 1, off := 6 } (Value.int IntKind.u32 (U (s.g + (rounds (fil C 16) s 64).snd.g)))).setCell { block := w.heap.size + 1 + 1, off := 7 } (Value.int IntKind.u32 (U (s.h + (rounds (fil C 16) s 64).snd.h)))) = W8
          intro hB hBl
          clear q0 q1 q2 q3 q4 q5 q6 q7 r0 r1 r2 r3 r4 r5 r6 r7 f0 hadd' hl2
          have q0 := hB.cell (j := 0) (v := .int .u32 (U (change s C).a)) rfl
          have q1 := hB.cell (j := 1) (v := .int .u32 (U (change s C).b)) rfl
          have q2 := hB.cell (j := 2) (v := .int .u32 (U (change s C).c)) rfl
          have q3 := hB.cell (j := 3) (v := .int .u32 (U (change s C).d)) rfl
          have q4 := hB.cell (j := 4) (v := .int .u32 (U (change s C).e)) rfl
          have q5 := hB.cell (j := 5) (v := .int .u32 (U (change s C).f)) rfl
          have q6 := hB.cell (j := 6) (v := .int .u32 (U (change s C).g)) rfl
          have q7 := hB.cell (j := 7) (v := .int .u32 (U (change s C).h)) rfl
          exact bodyPost_ret (v := .agg (stv (change s C))) (by simp [results, Tryd.results65, go_sem, q0, q1, q2, q3, q4, q5, q6, q7, stv]) rfl ⟨rfl, hBl⟩
end Go.Proofs.YtihbmahjdmfjpaaDoor
