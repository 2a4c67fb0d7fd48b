/- Slices of bytes and lists of them; what bytes.Put, slices.Grow of nil and slices.Concat return. -/
import Derived.Test.YtefiacnpbkancaaDoorUb
import Derived.Test.YtefiacnpbkancaaDoorKc
import Derived.Lib.AppendZeros
import Derived.Outline
namespace Go.Proofs.YtefiacnpbkancaaDoor
open Go.RowKit
set_option linter.unusedVariables false
set_option linter.unusedSimpArgs false
set_option maxRecDepth 100000
/-- What a call that lays bytes tells: new memory with the bytes X. -/
def LaidPost (X : List (BitVec 8)) (w : World) (e : Ending) (w' : World) : Prop :=
  ∃ v, e = .returned v ∧ OB w' w.heap.size v X ∧ Below w.heap.size w w'
set_option maxHeartbeats 4000000 in
theorem bput_any (A : Option Addr) (L : List (BitVec 8)) (cap B : Nat) (k : Int) (n : Nat) (w : World) (hR : Rd w B A L) (hB : B ≤ w.heap.size) (hn : n < 18446744073709551616) (hl : L.length ≤ 100000000) :
    Calls Tryd.prog 29 #[.slice A L.length cap, .int .i64 k, .int .u64 n] w (PutPost L k n w) := by
  have HW := Lib.hid (isWidth_any k w)
  by_cases hw : isW k = true
  · rw [hw] at HW
    have hk := isW_pos hw
    obtain ⟨m, rfl⟩ : ∃ m : Nat, k = m := ⟨k.toNat, by omega⟩
    have hmin : min (8 * m) 64 = 8 * m := by omega
    by_cases hlt : n < 2 ^ (8 * m)
    · have h0 : ((n : Int) / 2 ^ (8 * m) != 0) = false := by
        have : n / 2 ^ (8 * m) = 0 := Nat.div_eq_of_lt hlt
        have e : ((n : Int) / 2 ^ (8 * m)) = ((n / 2 ^ (8 * m) : Nat) : Int) := by simp
        rw [e, this]; rfl
      obtain ⟨cur, hcl, hmk⟩ := run_make22 L.length m (by omega) w
      have hm1 : 1 ≤ m := by omega
      have hm8 : m ≤ 8 := by omega
      have HR := Lib.hid hR
      have HBB := Lib.hid hB
      have HL := Lib.hid hl
      have HCl := Lib.hid hcl
      have HY := Lib.hid (show isW (m : Int) = true ∧ n < 2 ^ (8 * (m : Int).toNat) from ⟨hw, hlt⟩)
      clear hlt hR hcl hn hB hw hk
      go_enter Tryd.func29, Tryd.ntmps29
      go_upto_region 4 with (go_at_call 33; (with_reducible refine HW.out.mono ?_); rintro e w' ⟨rfl, rfl⟩; dsimp only)
      generalize hW1 : w.alloc (.cells cur.toArray 5) = W1
      have hB1 : Blk W1 w.heap.size 5 cur := by rw [← hW1]; exact Blk.new w 5 cur.toArray
      have hb1 : Below w.heap.size w W1 := by rw [← hW1]; exact (Below.refl _ _).alloc (Nat.le_refl _) _
      have HB1 := Lib.hid hB1
      have Hb1 := Lib.hid hb1
      have c1 : Hid ((vbs L).length = Nat.min L.length L.length) := show (vbs L).length = min L.length L.length by rw [vbs_len]; omega
      have c2 : Hid (0 < (vbs L).length → (some (⟨w.heap.size, 0, none⟩ : Addr)) = some ⟨w.heap.size, 0, none⟩ ∧ ∃ ad : Addr, A = some ad ∧ ∀ j v, (vbs L)[j]? = some v → W1.cell? (ad.add j) = some v) := fun hp => by
        rw [vbs_len] at hp
        obtain ⟨b, o, e, hlt, hc⟩ := HR.out hp
        refine ⟨rfl, ⟨b, o, none⟩, e, fun j v hv => ?_⟩
        have hj : j < L.length := by have := (List.getElem?_eq_some_iff.1 hv).1; rwa [vbs_len] at this
        rw [vbs_at hj] at hv
        rw [Addr.add_mid, Hb1.out.cell (p := ⟨b, o + j, none⟩) (by have := HBB.out; show b < _; omega), hc j hj]; exact hv
      have c3 : Hid (0 + (vbs L).length ≤ cur.length) := show 0 + (vbs L).length ≤ cur.length by rw [vbs_len, HCl.out]; omega
      clear hW1 hB1 hb1 hmk
      go_upto_region 5 with (refine wpList_copy_splice (o := ⟨some 29, _, _, _, _, _⟩) rfl (.tmp 27) (.tmp 28) 27 27 rfl 5 Tryd.underlying27 (by kernel_rfl) (some ⟨w.heap.size, 0, none⟩) A L.length (L.length + m) L.length cap rfl rfl w.heap.size 0 cur 5 HB1.out (vbs L) c1.out c2.out c3.out (vbs_one L) w.heap.size w Hb1.out (Nat.le_refl _) ?_; intro w2 hB2 hb2)
      have hO : OB w2 w.heap.size (.slice (some ⟨w.heap.size, 0, none⟩) L.length (L.length + m)) L := ob_of_splice HCl.out (by unfold maxLen; omega) hB2
      have HO := Lib.hid hO
      have Hb2 := Lib.hid hb2
      clear hO hb2 hB2 HB1 Hb1 c1 c2 c3 HR HCl
      go_wp2_with fail
      go_loopw [8, 31] (fun v i wq => ∃ j : Nat, j ≤ m ∧ i = .int .i64 j ∧ OB wq w.heap.size v (L ++ les n j) ∧ Below w.heap.size w wq) (fun _ i _ => m - (intOf i).toNat)
      case atStart => exact ⟨0, Nat.zero_le _, rfl, by simpa [les] using HO.out, Hb2.out⟩
      case round =>
        obtain ⟨j, hj, rfl, ho, hb⟩ := hrel
        by_cases hlt : j < m
        · have h0 : (0 : Int) ≤ (j : Int) := by omega
          have hmin2 : min (8 * j) 64 = 8 * j := by omega
          have hbv := byte_val n j
          obtain ⟨x, hx⟩ : ∃ x, x = BitVec.ofNat 8 (n / 2 ^ (8 * j)) := ⟨_, rfl⟩
          rw [← hx] at hbv
          have Hx := Lib.hid hx
          have HOo := Lib.hid (ho.alloc (.cells #[.int .u8 (Bt x)] 5))
          have hs := Lib.hid (src_one wr x)
          have HBo := Lib.hid (hb.alloc hb.size (.cells #[.int .u8 (Bt x)] 5))
          have HSz : Hid (w.heap.size ≤ (wr.alloc (.cells #[.int .u8 (Bt x)] 5)).heap.size) := HBo.out.size
          have HLe : Hid ((L ++ les n j).length + [x].length ≤ 140737488355328) := show (L ++ les n j).length + [x].length ≤ 140737488355328 by rw [List.length_append, les_len]; simp; omega
          clear ho hb hx
          go_wp2_with (refine wpList_push (o := ⟨some 41, _, _, _, _, _⟩) rfl (.tmp 34) (.tmp 40) rfl rfl w.heap.size _ _ [x] rfl HOo.out (some ⟨wr.heap.size, 0, none⟩) 1 1 rfl (one_len _) hs.out (fun h => by cases h) HLe.out HBo.out HSz.out (Nat.le_refl _) ?_; intro v' w' h1 h2 h3)
          go_roundw
          case rel => exact ⟨j + 1, by omega, by go_num, by rw [les_succ, ← Hx.out, ← List.append_assoc]; exact h1, h2⟩
          case measure => simp [intOf]; omega
        · obtain rfl : j = m := by omega
          have HOo := Lib.hid ho
          have HBo := Lib.hid hb
          clear ho hb
          go_wp2
          go_ret2
          exact ⟨HBo.out, fun _ => ⟨_, rfl, HOo.out⟩, fun h => absurd HY.out h⟩
    · have h0 : ((n : Int) / 2 ^ (8 * m) != 0) = true := by
        have e : ((n : Int) / 2 ^ (8 * m)) = ((n / 2 ^ (8 * m) : Nat) : Int) := by simp
        have h1 : 0 < n / 2 ^ (8 * m) := Nat.div_pos (by omega) (Nat.two_pow_pos _)
        rw [e]
        simp
        omega
      have hm1 : 1 ≤ m := by omega
      have hm8 : m ≤ 8 := by omega
      have HN : Hid (¬ (isW (m : Int) = true ∧ n < 2 ^ (8 * (m : Int).toNat))) := fun h => hlt h.2
      clear hlt hR hn hB hw hk hl
      go_enter Tryd.func29, Tryd.ntmps29
      go_wp2_with (go_at_call 33; (with_reducible refine HW.out.mono ?_); rintro e w' ⟨rfl, rfl⟩; dsimp only)
      go_ret2
      exact ⟨Below.refl _ _, fun h => absurd h HN.out, fun _ => rfl⟩
  · rw [show isW k = false by simpa using hw] at HW
    have HN := Lib.hid hw
    clear hR hl hn hB hw
    go_enter Tryd.func29, Tryd.ntmps29
    go_wp2_with (go_at_call 33; (with_reducible refine HW.out.mono ?_); rintro e w' ⟨rfl, rfl⟩; dsimp only)
    go_ret2
    exact ⟨Below.refl _ _, fun h => absurd h.1 HN.out, fun _ => rfl⟩
/-- Nothing that lay there in W0 has changed. -/
def SB (W0 w : World) : Prop := Below W0.heap.size W0 w
theorem SB.size {W0 w : World} (h : SB W0 w) : W0.heap.size ≤ w.heap.size := Below.size h
theorem SB.next {W0 w w' : World} (h : SB W0 w) (hb : Below w.heap.size w w') : SB W0 w' := Below.trans h (hb.mono h.size)
theorem SB.cell {W0 w : World} (h : SB W0 w) {b o : Nat} {v : Value} (hc : W0.cell? ⟨b, o, none⟩ = some v) : w.cell? ⟨b, o, none⟩ = some v := by
  rw [Below.cell h (p := ⟨b, o, none⟩) (World.block_lt_of_cell? _ _ hc)]; exact hc
theorem SB.refl (w : World) : SB w w := Below.refl _ _
theorem range_keep {w w' : World} {B b o : Nat} {vs : List Value} (h : w.rangeAt b o vs) (hb : Below B w w') (hlt : b < B) : w'.rangeAt b o vs := fun j v hv => by
  rw [hb.cell (p := ⟨b, o + j, none⟩) hlt]; exact h j v hv
theorem SB.range {W0 w : World} (h : SB W0 w) {b o : Nat} {vs : List Value} (hr : W0.rangeAt b o vs) (hb : b < W0.heap.size) : w.rangeAt b o vs := range_keep hr h hb
theorem SB.alloc {W0 w : World} (h : SB W0 w) (o : Obj) : SB W0 (w.alloc o) := Below.alloc h h.size o
theorem SB.setCells {W0 w : World} (h : SB W0 w) {b : Nat} (hb : W0.heap.size ≤ b) (us : List Value) (o : Nat) : SB W0 (w.setCells b o us) := below_setCells hb us o w h
/-- The value v is a slice that reads as the bytes L, and lies below block B. -/
def Sl (w : World) (B : Nat) (v : Value) (L : List (BitVec 8)) : Prop :=
  ∃ A cap, v = .slice A L.length cap ∧ Rd w B A L ∧ L.length ≤ cap ∧ cap ≤ 9223372036854775807 ∧ (A = none → cap = 0)
theorem Sl.keep {w w' : World} {B B' : Nat} {v : Value} {L : List (BitVec 8)} (h : Sl w B v L) (hb : Below B' w w') (hB : B ≤ B') : Sl w' B v L := by
  obtain ⟨A, cap, e, hr, r⟩ := h
  exact ⟨A, cap, e, hr.keep' hb hB, r⟩
theorem Sl.up {w : World} {B B' : Nat} {v : Value} {L : List (BitVec 8)} (h : Sl w B v L) (hB : B ≤ B') : Sl w B' v L := by
  obtain ⟨A, cap, e, hr, r⟩ := h
  exact ⟨A, cap, e, hr.up hB, r⟩
theorem Sl.nil (w : World) (B : Nat) : Sl w B (.slice none 0 0) [] := ⟨none, 0, rfl, fun h => by simp at h, Nat.le_refl _, by omega, fun _ => rfl⟩
/-- The value v is a slice of n things of k cells each, below block B; each lies as R says. -/
def Row (w : World) (B : Nat) (v : Value) (n k : Nat) (R : Nat → Nat → Nat → Prop) : Prop :=
  ∃ A cap, v = .slice A n cap ∧ n ≤ cap ∧ cap ≤ 9223372036854775807 ∧ (0 < n → ∃ b o, A = some ⟨b, o, none⟩ ∧ b < B ∧ ∀ j, j < n → R j b (o + j * k))
theorem Row.imp {w w' : World} {B B' : Nat} {v : Value} {n k : Nat} {R R' : Nat → Nat → Nat → Prop} (h : Row w B v n k R) (hB : B ≤ B') (hi : ∀ j b o, j < n → b < B → R j b o → R' j b o) : Row w' B' v n k R' := by
  obtain ⟨A, cap, e, h1, h2, h3⟩ := h
  refine ⟨A, cap, e, h1, h2, fun hp => ?_⟩
  obtain ⟨b, o, eA, hb, hr⟩ := h3 hp
  exact ⟨b, o, eA, Nat.lt_of_lt_of_le hb hB, fun j hj => hi j b _ hj hb (hr j hj)⟩
/-- A list of byte strings. -/
def Ws (w : World) (B : Nat) (v : Value) (Ls : List (List (BitVec 8))) : Prop :=
  Row w B v Ls.length 1 fun j b o => ∃ u, w.cell? ⟨b, o, none⟩ = some u ∧ Sl w B u (Ls.getD j [])
theorem Ws.keep {w w' : World} {B B' : Nat} {v : Value} {Ls : List (List (BitVec 8))} (h : Ws w B v Ls) (hb : Below B' w w') (hB : B ≤ B') : Ws w' B v Ls :=
  Row.imp h (Nat.le_refl _) fun j b o _ hlt ⟨u, hc, hs⟩ => ⟨u, by rw [hb.cell (p := ⟨b, o, none⟩) (Nat.lt_of_lt_of_le hlt hB)]; exact hc, hs.keep hb hB⟩
theorem Ws.up {w : World} {B B' : Nat} {v : Value} {Ls : List (List (BitVec 8))} (h : Ws w B v Ls) (hB : B ≤ B') : Ws w B' v Ls :=
  Row.imp h hB fun j b o _ _ ⟨u, hc, hs⟩ => ⟨u, hc, hs.up hB⟩
theorem Row.open {w : World} {B : Nat} {v : Value} {n k : Nat} {R : Nat → Nat → Nat → Prop} (h : Row w B v n k R) :
    ∃ A cap b o, v = .slice A n cap ∧ (0 < n → A = some ⟨b, o, none⟩) ∧ ∀ j, j < n → b < B ∧ R j b (o + j * k) := by
  obtain ⟨A, cap, e, _, _, hr⟩ := h
  by_cases hp : 0 < n
  · obtain ⟨b, o, eA, hlt, hh⟩ := hr hp
    exact ⟨A, cap, b, o, e, fun _ => eA, fun j hj => ⟨hlt, hh j hj⟩⟩
  · exact ⟨A, cap, 0, 0, e, fun h => absurd h hp, fun j hj => by omega⟩
theorem slice55all (b o : Nat) (w : World) : (Instr.sliceAt 24 (.pointer (some ⟨b, o, none⟩)) none none none).run Tryd.prog w = .ok (.slice (some ⟨b, o, none⟩) 32 32) w := by
  rw [run_sliceAt_array_all w 24 _ (by kernel_rfl)]
  have hs : (sizeOf (Tryd.prog.elem 24)).run Tryd.prog w = .ok 1 w := by kernel_rfl
  have hl : Tryd.prog.arrayLen 24 = 32 := by kernel_rfl
  rw [hs, hl]
  rfl
theorem slice_form {w : World} {B : Nat} {v : Value} {L : List (BitVec 8)} (h : OB w B v L) : ∃ A c, v = .slice A L.length c ∧ Rd w w.heap.size A L ∧ (A = none → c = 0) := by
  obtain ⟨A, c, e, hr, _, _, hc⟩ := h.rd
  exact ⟨A, c, e, hr, hc⟩
theorem OB.sl {w : World} {B B' : Nat} {v : Value} {L : List (BitVec 8)} (h : OB w B v L) (hB : w.heap.size ≤ B') : Sl w B' v L := by
  obtain ⟨A, c, e, hr, h1, h2, h3⟩ := h.rd
  exact ⟨A, c, e, hr.up hB, h1, h2, h3⟩
theorem flat_le {α : Type} (f : α → List (BitVec 8)) (k : Nat) : ∀ (l : List α), (∀ x ∈ l, (f x).length ≤ k) → (l.map f).flatten.length ≤ l.length * k
  | [], _ => by simp
  | x :: l, h => by
    have h1 := h x (List.mem_cons_self ..)
    have h2 := flat_le f k l fun y hy => h y (List.mem_cons_of_mem _ hy)
    simp only [List.map_cons, List.flatten_cons, List.length_append, List.length_cons, Nat.add_mul, Nat.one_mul]
    omega
theorem flat_succ {α : Type} (f : α → List (BitVec 8)) (l : List α) (d : α) (i : Nat) (h : i < l.length) : ((l.take (i + 1)).map f).flatten = ((l.take i).map f).flatten ++ f (l.getD i d) := by
  rw [List.take_succ_eq_append_getElem h, List.map_append, List.flatten_append]
  simp [List.getD, h]
theorem getD_mem {α : Type} (l : List α) (d : α) (i : Nat) (h : i < l.length) : l.getD i d ∈ l := by
  have : l.getD i d = l[i] := by simp [List.getD, h]
  rw [this]; exact List.getElem_mem h
theorem take_sub {α : Type} {l : List α} {i : Nat} {P : α → Prop} (h : ∀ x ∈ l, P x) : ∀ x ∈ l.take i, P x := fun x hx => h x (List.mem_of_mem_take hx)
theorem int3 : Tryd.prog.underlying 3 = some (.int .i64) := by kernel_rfl
theorem run_grow (w : World) (n : Nat) (h0 : 0 < n) (hn : n ≤ 100000000) : ∃ C G, (Builtin.append_ #[27, 3] 27 #[.slice none 0 0, .int .i64 (n : Int)]).run Tryd.prog w = .ok (.slice (some ⟨w.heap.size, 0, none⟩) n G) (w.drew.alloc (.cells C 5)) ∧
    OB (w.drew.alloc (.cells C 5)) w.heap.size (.slice (some ⟨w.heap.size, 0, none⟩) 0 G) [] ∧ n ≤ G ∧ G ≤ 9223372036854775807 := by
  obtain ⟨i0, hi, hz0, hz1, hz2⟩ := info_parts info5
  have hr := Lib.run_append_nil_zeros (P := Tryd.prog) w 27 3 27 5 i0 (.int .u8 0) .i64 .i64 Tryd.underlying27 int3 hi hz0 n h0 (by omega) (by omega) (by rw [hz2]; omega)
  refine ⟨_, _, hr, ?_, grownCap_ge w n 0 5, by have := grownCap_le_maxLen w n 0 5 (by unfold maxLen; omega); unfold maxLen at this; omega⟩
  have hge := grownCap_ge w n 0 5
  have hcm := grownCap_le_maxLen w n 0 5 (by unfold maxLen; omega)
  generalize grownCap w n 0 5 = G at hge hcm ⊢
  refine ⟨rfl, .inr ⟨w.heap.size, G, _, rfl, Nat.le_refl _, heap_alloc_new w.drew _, by simp, hcm, ?_, ?_⟩⟩
  · simp [size_zeroCells, Value.cells]; omega
  · simp [vbs]
set_option maxHeartbeats 4000000 in
theorem grow_any (n : Nat) (hn : n ≤ 100000000) (w : World) : Calls Tryd.prog 28 #[.slice none 0 0, .int .i64 (n : Int)] w (LaidPost [] w) := by
  by_cases h0 : 0 < n
  · obtain ⟨C, G, hr, ho, hg, hg2⟩ := run_grow w n h0 hn
    have HR := Lib.hid hr
    have HO := Lib.hid ho
    have h1 : (0 : Int) < (n : Int) := by omega
    have h2 : ¬ (n : Int) < 0 := by omega
    have hb : Hid (Below w.heap.size w (w.drew.alloc (.cells C 5))) := ((Below.refl w.heap.size w).drew).alloc (by simp) _
    clear hr ho
    go_enter Tryd.func28, Tryd.ntmps28
    go_wp2_with (refine Lib.wpList_append_run (o := ⟨some 22, _, _, _, _, _⟩) _ rfl (.tmp 20) (.tmp 21) 27 3 rfl (.slice none 0 0) (.int .i64 (n : Int)) rfl rfl _ _ HR.out ?_)
    go_ret
    exact ⟨_, rfl, HO.out, hb.out⟩
  · obtain rfl : n = 0 := by omega
    have hb : Hid (Below w.heap.size w w) := Below.refl _ _
    show Calls Tryd.prog 28 #[.slice none 0 0, .int .i64 0] w (LaidPost [] w)
    go_enter Tryd.func28, Tryd.ntmps28
    go_wp2_with fail
    go_ret
    exact ⟨_, rfl, OB.nil _ _, hb.out⟩
set_option maxHeartbeats 4000000 in
theorem concat_any (Ls : List (List (BitVec 8))) (v : Value) (w : World) (h : Ws w w.heap.size v Ls) (hn1 : Ls.length ≤ 100) (hl : ∀ L ∈ Ls, L.length ≤ 100000) :
    Calls Tryd.prog 17 #[v] w (LaidPost Ls.flatten w) := by
  obtain ⟨A, cap, b, o, rfl, hA, hj⟩ := Row.open h
  obtain ⟨n, hn⟩ : ∃ n, n = Ls.length := ⟨_, rfl⟩
  have hbd : ∀ i, i ≤ n → (Ls.take i).flatten.length ≤ i * 100000 := fun i hi => by
    have := flat_le (fun x => x) 100000 (Ls.take i) (take_sub hl)
    rw [List.map_id'] at this
    rw [List.length_take, Nat.min_eq_left (by omega)] at this
    exact this
  have hsucc : ∀ i, i < n → (Ls.take (i + 1)).flatten = (Ls.take i).flatten ++ Ls.getD i [] := fun i hi => by
    have := flat_succ (fun x => x) Ls [] i (by omega)
    simpa using this
  have hJ : Hid (∀ i, i < n → ∃ Ai ci, A = some ⟨b, o, none⟩ ∧ b < w.heap.size ∧ w.cell? ⟨b, o + i, none⟩ = some (.slice Ai (Ls.getD i []).length ci) ∧ Rd w w.heap.size Ai (Ls.getD i []) ∧ (Ai = none → ci = 0)) := fun i hi => by
    obtain ⟨hlt, u, hc, Ai, ci, rfl, hrd, _, _, hcn⟩ := hj i (by omega)
    rw [Nat.mul_one] at hc
    exact ⟨Ai, ci, hA (by omega), hlt, hc, hrd, hcn⟩
  have HBd := Lib.hid hbd
  have HSu := Lib.hid hsucc
  have Hn := Lib.hid hn
  have hn100 : n ≤ 100 := by omega
  have KG := Lib.hid grow_any
  have HF : Hid ((Ls.take n).flatten = Ls.flatten) := show (Ls.take n).flatten = Ls.flatten by rw [List.take_of_length_le (by omega)]
  rw [← hn]
  clear h hA hj hbd hsucc hn hl hn1
  go_enter Tryd.func17, Tryd.ntmps17
  go_wp2_with fail
  go_loopw [3, 11] (fun sv iv wq => ∃ i : Nat, i ≤ n ∧ iv = .int .i64 (i : Int) ∧ sv = .int .i64 (((Ls.take i).flatten.length : Nat) : Int) ∧ wq = w) (fun _ iv _ => n - (intOf iv).toNat)
  case atStart => exact ⟨0, Nat.zero_le _, rfl, rfl, rfl⟩
  case round =>
    obtain ⟨i, hi, rfl, rfl, hw⟩ := hrel
    have hw' := hw.symm
    subst hw'
    clear hw
    by_cases hlt : i < n
    · have hlt' : (i : Int) < (n : Int) := by omega
      obtain ⟨Ai, ci, rfl, hbl, hc, _, _⟩ := hJ.out i hlt
      have hb1 := HBd.out i hi
      have hb2 := HBd.out (i + 1) hlt
      have hs := HSu.out i hlt
      have hs2 : (Ls.take (i + 1)).flatten.length = (Ls.take i).flatten.length + (Ls.getD i []).length := by rw [hs, List.length_append]
      obtain ⟨a, ha⟩ : ∃ a, a = (Ls.take i).flatten.length := ⟨_, rfl⟩
      obtain ⟨l, hl⟩ : ∃ l, l = (Ls.getD i []).length := ⟨_, rfl⟩
      obtain ⟨a2, ha2⟩ : ∃ a, a = (Ls.take (i + 1)).flatten.length := ⟨_, rfl⟩
      rw [← ha] at hb1 hs2 ⊢
      rw [← hl] at hs2 hc
      rw [← ha2] at hb2 hs2
      have hsum : (a : Int) + (l : Int) = (a2 : Int) := by omega
      have hng : ¬ (a2 : Int) < 0 := by omega
      have ha2l : a2 ≤ 10100000 := by omega
      have Ha2 := Lib.hid ha2
      clear hs hs2 ha hl ha2
      go_wp2_with fail
      go_roundw
      case rel => exact ⟨i + 1, by omega, by go_num, by rw [← Ha2.out], by first | trivial | rfl⟩
      case measure => simp [intOf]; omega
    · obtain rfl : i = n := by omega
      have hlt' : ¬ (i : Int) < (i : Int) := by omega
      have hb1 := HBd.out i (Nat.le_refl _)
      have K := Lib.hid (KG.out (Ls.take i).flatten.length (by omega) w)
      obtain ⟨a, ha⟩ : ∃ a, a = (Ls.take i).flatten.length := ⟨_, rfl⟩
      rw [← ha] at K ⊢
      clear ha hb1 KG
      go_wp2_with (go_at_call 28; (refine K.out.mono ?_); rintro e w1 ⟨v1, rfl, ho1, hb1⟩; dsimp only)
      go_loopw [6, 27] (fun vv iv wq => ∃ j : Nat, j ≤ i ∧ iv = .int .i64 (j : Int) ∧ OB wq w.heap.size vv (Ls.take j).flatten ∧ Below w.heap.size w wq) (fun _ iv _ => i - (intOf iv).toNat)
      case atStart => exact ⟨0, Nat.zero_le _, rfl, ho1, hb1⟩
      case round =>
        clear ho1 hb1 K
        obtain ⟨j, hj, rfl, ho, hb⟩ := hrel
        by_cases hjt : j < i
        · have hjt' : (j : Int) < (i : Int) := by omega
          obtain ⟨Ai, ci, rfl, hbl, hc, hrd, hcn⟩ := hJ.out j hjt
          have c0 : wr.cell? ⟨b, o + j, none⟩ = some (.slice Ai (Ls.getD j []).length ci) := by rw [hb.cell (p := ⟨b, o + j, none⟩) hbl]; exact hc
          have hbd := HBd.out j hj
          have hbd2 := HBd.out (j + 1) hjt
          have hs := HSu.out j hjt
          have hs2 : (Ls.take (j + 1)).flatten.length = (Ls.take j).flatten.length + (Ls.getD j []).length := by rw [hs, List.length_append]
          obtain ⟨X, hX⟩ : ∃ X, X = (Ls.take j).flatten := ⟨_, rfl⟩
          obtain ⟨Y, hY⟩ : ∃ Y, Y = Ls.getD j [] := ⟨_, rfl⟩
          rw [← hX] at ho hbd hs hs2
          rw [← hY] at c0 hrd hs hs2
          obtain ⟨l, hl⟩ : ∃ l, l = Y.length := ⟨_, rfl⟩
          have HSr : Hid (Src22 wr Ai l (vbs Y)) := show Src22 wr Ai l (vbs Y) by rw [hl]; exact src_of_rd (hrd.keep hb)
          have Hsr2 : Hid (Src22 wr Ai Y.length (vbs Y)) := show Src22 wr Ai Y.length (vbs Y) from src_of_rd (hrd.keep hb)
          have HLe : Hid (X.length + Y.length ≤ 140737488355328) := show X.length + Y.length ≤ 140737488355328 by omega
          have HO := Lib.hid ho
          have HB := Lib.hid hb
          have Hs := Lib.hid hs
          have Hl := Lib.hid hl
          have Hcn := Lib.hid hcn
          rw [← hl] at c0
          clear hc hrd hbd hbd2 hs hs2 hX hY hl ho hb hbl hcn
          go_wp2_with (refine wpList_push (o := ⟨some 33, _, _, _, _, _⟩) rfl (.tmp 31) (.tmp 32) rfl rfl w.heap.size _ X Y rfl HO.out Ai l ci rfl Hl.out Hsr2.out Hcn.out HLe.out HB.out HB.out.size (Nat.le_refl _) ?_; intro v3 w3 h1 h2 h3)
          go_roundw
          case rel => exact ⟨j + 1, by omega, by go_num, by rw [Hs.out]; exact h1, h2⟩
          case measure => simp [intOf]; omega
        · obtain rfl : j = i := by omega
          have hjt' : ¬ (j : Int) < (j : Int) := by omega
          rw [HF.out] at ho
          have HO := Lib.hid ho
          have HB := Lib.hid hb
          clear ho hb
          go_wp2_with fail
          go_ret
          exact ⟨_, rfl, HO.out, HB.out⟩
end Go.Proofs.YtefiacnpbkancaaDoor
