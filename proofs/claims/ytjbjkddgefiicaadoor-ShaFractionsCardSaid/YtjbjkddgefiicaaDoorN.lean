/- A law on regions that draw their order, and what the closure of sha.changed returns: the next number of a chunk, for rounds 0 to 63. -/
import Derived.Test.YtjbjkddgefiicaaDoorJ
namespace Go.Proofs.YtjbjkddgefiicaaDoor
open Go.RowKit
set_option linter.unusedVariables false
set_option linter.unusedSimpArgs false
section
variable {P : Program} {ops : Array Oper} {Q : Exit → Act → World → Prop} {md : Region.Mode} {S : World → Prop}
/-- Whatever order is drawn from here on; behind each operation but number z the condition S holds. -/
def AnyBut (P : Program) (md : Region.Mode) (ops : Array Oper) (Q : Exit → Act → World → Prop) (S : World → Prop) (z : Nat) : Nat → Array Bool → Act → World → Prop
  | 0, listed, a, w => Region.ready md ops listed = [] ∧ Q .normal a w
  | n + 1, listed, a, w => (Region.ready md ops listed = [] → Q .normal a w) ∧
      ∀ i ∈ Region.ready md ops listed, wpOp P ops Q i (fun a' w' => (i ≠ z → S w') ∧ AnyBut P md ops Q S z n (listed.setIfInBounds i true) a' w') a w
theorem AnyBut.any {z : Nat} : ∀ (n : Nat) (listed : Array Bool) (a : Act) (w : World), AnyBut P md ops Q S z n listed a w → wpAny P md ops Q n listed a w
  | 0, _, _, _, h => h
  | n + 1, _, _, _, h => ⟨h.1, fun i hi => wpOp_mono (fun a' w' h' => AnyBut.any n _ a' w' h'.2) (h.2 i hi)⟩
/-- Does operation z wait for operation i? -/
def waits (md : Region.Mode) (ops : Array Oper) (z i : Nat) : Bool := match ops[z]? with
  | some o => o.after.any fun e => Region.binds md e && e.on == i
  | none => false
theorem not_ready_of_waits {z i : Nat} {listed : Array Bool} (hw : waits md ops z i = true) (hi : i ∈ Region.ready md ops listed) : z ∉ Region.ready md ops listed := by
  intro hz
  obtain ⟨_, oz, hoz, hall⟩ := mem_ready.1 hz
  unfold waits at hw
  rw [hoz] at hw
  obtain ⟨e, he, hb⟩ := Array.any_eq_true'.1 hw
  simp only [Bool.and_eq_true, beq_iff_eq] at hb
  have h1 := hall e he hb.1
  have h0 := (mem_ready.1 hi).1
  rw [hb.2] at h1
  rcases Nat.lt_or_ge i listed.size with h' | h'
  · simp [h'] at h0 h1; rw [h0] at h1; cases h1
  · simp [Array.getElem?_eq_none h'] at h1
theorem AnyBut.first {z i : Nat} {oi : Oper} {v : Value} (hi : ops[i]? = some oi) (hsel : ∀ (j : Nat) (o : Oper) cs b, ops[j]? = some o → o.op ≠ .select cs b)
    (hQ : ∀ c a w, Q (.panic c) (a.put oi.dst v) w → Q (.panic c) a w) (hz : waits md ops z i = true) :
    ∀ (n : Nat) (listed : Array Bool) (a : Act) (w : World),
      (∀ j oj, ops[j]? = some oj → j ≠ i → listed.getD j true = false → (∀ e ∈ oj.after, Region.binds md e = true → e.on ≠ i) → oi.apart ops oj = true) →
      i ∈ Region.ready md ops listed → YieldsIf P ops S oi v a → S w →
      AnyBut P md ops Q S z n (listed.setIfInBounds i true) (a.put oi.dst v) w → AnyBut P md ops Q S z (n + 1) listed a w
  | 0, listed, a, w, _, hr, hy, hS, H => by
    refine ⟨fun h => (by rw [h] at hr; cases hr), fun j hj => ?_⟩
    by_cases hji : j = i
    · subst hji; exact hy.wpOp hi hS ⟨fun _ => hS, H⟩
    · have hm := ready_mono hj hji
      rw [H.1] at hm
      cases hm
  | n + 1, listed, a, w, hfree, hr, hy, hS, H => by
    refine ⟨fun h => (by rw [h] at hr; cases hr), fun j hj => ?_⟩
    by_cases hji : j = i
    · subst hji; exact hy.wpOp hi hS ⟨fun _ => hS, H⟩
    · have hjz : j ≠ z := fun e => not_ready_of_waits hz hr (e ▸ hj)
      obtain ⟨hjun, oj, hoj, hall⟩ := mem_ready.1 hj
      have hno : ∀ e ∈ oj.after, Region.binds md e = true → e.on ≠ i := fun e he hb heq => by
        have hw : waits md ops j i = true := by
          unfold waits
          rw [hoj]
          exact Array.any_eq_true'.2 ⟨e, he, by simp [hb, heq]⟩
        exact not_ready_of_waits hw hr hj
      have h2 := wpOp_putIf hoj (hfree j oj hoj hji hjun hno) (fun cs b => hsel i oi cs b hi) (fun cs b => hsel j oj cs b hoj) hQ hy (H.2 j (ready_mono hj hji))
      refine wpOp_mono (fun a' w' h3 => ⟨h3.2.1, AnyBut.first hi hsel hQ hz n (listed.setIfInBounds j true) a' w' (fun k ok hk hki hun hne => hfree k ok hk hki ?_ hne) (ready_mono hr (Ne.symm hji)) h3.1 (h3.2.1 hjz) ?_⟩) h2
      · by_cases hjk : j = k
        · subst hjk; exact hjun
        · rwa [getD_set_ne true hjk] at hun
      · rw [Array.setIfInBounds_comm _ _ hji]
        exact h3.2.2
theorem AnyBut.take {z i : Nat} {oi : Oper} {v : Value} {n : Nat} {listed : Array Bool} {a : Act} {w : World} (hi : ops[i]? = some oi)
    (hs : Region.noSelect ops = true) (hf : Region.free md ops listed i = true) (hr : (Region.ready md ops listed).contains i = true) (hz : waits md ops z i = true)
    (hQ : ∀ c a w, Q (.panic c) (a.put oi.dst v) w → Q (.panic c) a w) (hy : YieldsIf P ops S oi v a) (hS : S w)
    (h : AnyBut P md ops Q S z n (listed.setIfInBounds i true) (a.put oi.dst v) w) : AnyBut P md ops Q S z (n + 1) listed a w :=
  AnyBut.first hi (Region.noSelect_spec hs) hQ hz n listed a w (Region.free_spec hi hf) (by simpa using hr) hy hS h
theorem AnyBut.one {z i : Nat} {o : Oper} {n : Nat} {listed : Array Bool} {a : Act} {w : World} (hr : Region.ready md ops listed = [i]) (ho : ops[i]? = some o) (hg : o.guard = none)
    (h : ∀ K : Act → World → Prop, (∀ a' w', (i ≠ z → S w') → AnyBut P md ops Q S z n (listed.setIfInBounds i true) a' w' → K a' w') → Oper.wp P o a w K Q) : AnyBut P md ops Q S z (n + 1) listed a w := by
  refine ⟨fun e => (by rw [hr] at e; cases e), fun j hj => ?_⟩
  rw [hr] at hj
  obtain rfl : j = i := by simpa using hj
  unfold wpOp
  rw [ho]
  have hw : Region.wanted o (yielded ops a.tmps) = true := by unfold Region.wanted; rw [hg]
  simp only [hw, if_true]
  exact .inl (h _ fun _ _ h1 h2 => ⟨h1, h2⟩)
theorem AnyBut.two {z i k : Nat} {o p : Oper} {n : Nat} {listed : Array Bool} {a : Act} {w : World} (hr : Region.ready md ops listed = [i, k]) (ho : ops[i]? = some o) (hg : o.guard = none) (hp : ops[k]? = some p) (hgp : p.guard = none)
    (h : ∀ K : Act → World → Prop, (∀ a' w', (i ≠ z → S w') → AnyBut P md ops Q S z n (listed.setIfInBounds i true) a' w' → K a' w') → Oper.wp P o a w K Q)
    (h2 : ∀ K : Act → World → Prop, (∀ a' w', (k ≠ z → S w') → AnyBut P md ops Q S z n (listed.setIfInBounds k true) a' w' → K a' w') → Oper.wp P p a w K Q) : AnyBut P md ops Q S z (n + 1) listed a w := by
  refine ⟨fun e => (by rw [hr] at e; cases e), fun j hj => ?_⟩
  rw [hr] at hj
  have hj' : j = i ∨ j = k := by simpa using hj
  rcases hj' with rfl | rfl
  · unfold wpOp
    rw [ho]
    have hw : Region.wanted o (yielded ops a.tmps) = true := by unfold Region.wanted; rw [hg]
    simp only [hw, if_true]
    exact .inl (h _ fun _ _ h1 h2 => ⟨h1, h2⟩)
  · unfold wpOp
    rw [hp]
    have hw : Region.wanted p (yielded ops a.tmps) = true := by unfold Region.wanted; rw [hgp]
    simp only [hw, if_true]
    exact .inl (h2 _ fun _ _ h1 h2 => ⟨h1, h2⟩)
theorem AnyBut.done {z : Nat} {listed : Array Bool} {a : Act} {w : World} (hr : Region.ready md ops listed = []) (h : Q .normal a w) : ∀ n, AnyBut P md ops Q S z n listed a w
  | 0 => ⟨hr, h⟩
  | _ + 1 => ⟨fun _ => h, by rw [hr]; simp⟩
theorem wp_region_but {id z : Nat} {a : Act} {w : World} (S : World → Prop) (hm : P.follows .mixedOrders = true)
    (h : AnyBut P .any ops Q S z ops.size (Array.replicate ops.size false) a w.drew) : (Code.region id ops true).wp P Q a w :=
  wp_region_any hm (AnyBut.any _ _ _ _ h)
end
theorem wp_calm {P : Program} {c : Code} {K : Act → World → Prop} {Q' : Exit → Act → World → Prop} {a : Act} {w : World}
    (h : c.wp P (Exit.then K fun _ _ _ => False) a w) : c.wp P (Exit.then K Q') a w :=
  Code.wp_mono (fun e a w q => by cases e <;> first | exact q | exact q.elim) h
/-- The number that takes place i of the last sixteen. -/
def nxt (L : List (BitVec 32)) (i : Nat) : BitVec 32 :=
  L.getD (i % 16) 0 + ((trn (L.getD ((i - 15) % 16) 0) [7, 18] ^^^ L.getD ((i - 15) % 16) 0 >>> 3) + L.getD ((i - 7) % 16) 0 + (trn (L.getD ((i - 2) % 16) 0) [17, 19] ^^^ L.getD ((i - 2) % 16) 0 >>> 10))
theorem i64_and_nat (a b : Nat) (ha : a < 9223372036854775808) (hb : b < 9223372036854775808) : bits .and .i64 (a : Int) (b : Int) = ((a &&& b : Nat) : Int) := by
  have hx : a &&& b < 9223372036854775808 := Nat.lt_of_le_of_lt Nat.and_le_left ha
  show IntKind.i64.wrap ((BitVec.ofInt 64 (a : Int) &&& BitVec.ofInt 64 (b : Int)).toNat : Int) = _
  rw [BitVec.toNat_and, ofInt_u64 a (by omega), ofInt_u64 b (by omega)]
  exact IntWalk.i64_in _ (by omega)
theorem and15 (i k : Nat) (h : k ≤ i) (hi : i < 1000) : bits BinOp.and IntKind.i64 ((i : Int) - (k : Int)) 15 = (((i - k) % 16 : Nat) : Int) := by
  rw [show (i : Int) - (k : Int) = ((i - k : Nat) : Int) by omega, show (15 : Int) = ((15 : Nat) : Int) by rfl, i64_and_nat _ _ (by omega) (by omega), nat_mask4]
theorem fin_step {K : Act → World → Prop} {Q : Exit → Act → World → Prop} {a : Act} {W : World} {G : World → Prop} (hg : G W) (h : ∀ W', G W' → Exit.then K Q .normal a W') : Exit.then K Q .normal a W := h W hg
def S2 (b s m : Nat) (S M : BitVec 32) (w' : World) : Prop := w'.cell? ⟨b, s, none⟩ = some (.int .u32 (U S)) ∧ w'.cell? ⟨b, m, none⟩ = some (.int .u32 (U M))
set_option maxRecDepth 100000 in
set_option maxHeartbeats 4000000 in
theorem next_core (i b f n s m : Nat) (F N S M : BitVec 32) (w : World) (hi : 16 ≤ i) (hi' : i < 64)
    (e15 : bits BinOp.and IntKind.i64 ((i : Int) - 15) 15 = (f : Int)) (e2 : bits BinOp.and IntKind.i64 ((i : Int) - 2) 15 = (n : Int)) (e7 : bits BinOp.and IntKind.i64 ((i : Int) - 7) 15 = (s : Int)) (e0 : bits BinOp.and IntKind.i64 (i : Int) 15 = (m : Int))
    (hf : f < 16) (hn : n < 16) (hs : s < 16) (hm : m < 16)
    (cf : w.cell? ⟨b, f, none⟩ = some (.int .u32 (U F))) (cn : w.cell? ⟨b, n, none⟩ = some (.int .u32 (U N))) (cs : w.cell? ⟨b, s, none⟩ = some (.int .u32 (U S))) (cm : w.cell? ⟨b, m, none⟩ = some (.int .u32 (U M)))
    (fm : w.frozen? ⟨b, m, none⟩ = false) (hlt : b < w.heap.size) (hms : m ≠ s) (vs : List Value) (hvs : m < vs.length) (hblk : Hid (Blk w b 62 vs)) :
    Calls Tryd.prog 39 #[.int .i64 i, .pointer (some ⟨b, 0, none⟩)] w fun e w' => e = .returned (.int .u32 (U (M + ((trn F [7, 18] ^^^ F >>> 3) + S + (trn N [17, 19] ^^^ N >>> 10))))) ∧ Grn w b 62 (vs.set m (.int .u32 (U (M + ((trn F [7, 18] ^^^ F >>> 3) + S + (trn N [17, 19] ^^^ N >>> 10)))))) w' := by
  have hn0 : (0 : Int) ≤ (n : Int) := by omega
  have hn1 : (n : Int) < 16 := by omega
  have hf0 : (0 : Int) ≤ (f : Int) := by omega
  have hf1 : (f : Int) < 16 := by omega
  have hs0 : (0 : Int) ≤ (s : Int) := by omega
  have hs1 : (s : Int) < 16 := by omega
  have hm0 : (0 : Int) ≤ (m : Int) := by omega
  have hm1 : (m : Int) < 16 := by omega
  go_enter Tryd.func39, Tryd.ntmps39
  go_wp2_with fail
  go_quiet (fail)
  go_wp2_with fail
  have w7 : IntKind.i64.wrap ((i : Int) - 7) = (i : Int) - 7 := IntWalk.i64_in _ (by omega)
  have hadd : ∀ x y : BitVec 32, IntKind.u32.wrap (U x + U y) = U (x + y) := fun x y => by rw [IntKind.wrap_u32']; exact U_add x y
  have hadd' : ∀ x y : BitVec 32, (U x + U y) % (4294967296 : Int) = U (x + y) := fun x y => U_add x y
  have hxor := U_xor
  have hs3 : ∀ x : BitVec 32, U x / (8 : Int) = U (x >>> 3) := fun x => U_shr x 3
  have hs10 : ∀ x : BitVec 32, U x / (1024 : Int) = U (x >>> 10) := fun x => U_shr x 10
  refine wp_calm ?_
  refine wp_region_but (z := 25) (S2 b s m S M) (by kernel_rfl) ?_
  have hS : S2 b s m S M (w.drewN nq).drew := ⟨cs, cm⟩
  have hG : Hid (Grn w b 62 vs (w.drewN nq).drew) := ((Grn.refl hblk.out).drewN nq).drew
  have hF : (w.drewN nq).drew.frozen? ⟨b, m, none⟩ = false := fm
  have hL : b < (w.drewN nq).drew.heap.size := hlt
  generalize (w.drewN nq).drew = w0 at hS hG hF hL ⊢
  clear cs cm cf cn fm hlt hblk
  refine AnyBut.take (i := 0) (v := ?_) rfl (by kernel_rfl) (by kernel_rfl) (by kernel_rfl) (by kernel_rfl) (fun _ _ _ h => h) (Or.inl ⟨by rfl, ?_⟩) hS ?_
  rotate_left
  · (intro wq hq; obtain ⟨hq1, hq2⟩ := hq; go_simp; try with_reducible rfl)
  simp only [Act.put, List.setIfInBounds_toArray, List.set_cons_zero, List.set_cons_succ]
  refine AnyBut.take (i := 1) (v := ?_) rfl (by kernel_rfl) (by kernel_rfl) (by kernel_rfl) (by kernel_rfl) (fun _ _ _ h => h) (Or.inl ⟨by rfl, ?_⟩) hS ?_
  rotate_left
  · (intro wq hq; obtain ⟨hq1, hq2⟩ := hq; go_simp; try with_reducible rfl)
  simp only [Act.put, List.setIfInBounds_toArray, List.set_cons_zero, List.set_cons_succ]
  refine AnyBut.take (i := 2) (v := ?_) rfl (by kernel_rfl) (by kernel_rfl) (by kernel_rfl) (by kernel_rfl) (fun _ _ _ h => h) (Or.inl ⟨by rfl, ?_⟩) hS ?_
  rotate_left
  · (intro wq hq; obtain ⟨hq1, hq2⟩ := hq; go_simp; try with_reducible rfl)
  simp only [Act.put, List.setIfInBounds_toArray, List.set_cons_zero, List.set_cons_succ]
  refine AnyBut.take (i := 3) (v := ?_) rfl (by kernel_rfl) (by kernel_rfl) (by kernel_rfl) (by kernel_rfl) (fun _ _ _ h => h) (Or.inl ⟨by rfl, ?_⟩) hS ?_
  rotate_left
  · (intro wq hq; obtain ⟨hq1, hq2⟩ := hq; go_simp; try with_reducible rfl)
  simp only [Act.put, List.setIfInBounds_toArray, List.set_cons_zero, List.set_cons_succ]
  refine AnyBut.take (i := 4) (v := ?_) rfl (by kernel_rfl) (by kernel_rfl) (by kernel_rfl) (by kernel_rfl) (fun _ _ _ h => h) (Or.inl ⟨by rfl, ?_⟩) hS ?_
  rotate_left
  · (intro wq hq; obtain ⟨hq1, hq2⟩ := hq; go_simp; try with_reducible rfl)
  simp only [Act.put, List.setIfInBounds_toArray, List.set_cons_zero, List.set_cons_succ]
  refine AnyBut.take (i := 7) (v := ?_) rfl (by kernel_rfl) (by kernel_rfl) (by kernel_rfl) (by kernel_rfl) (fun _ _ _ h => h) (Or.inl ⟨by rfl, ?_⟩) hS ?_
  rotate_left
  · (intro wq hq; obtain ⟨hq1, hq2⟩ := hq; go_simp; try with_reducible rfl)
  simp only [Act.put, List.setIfInBounds_toArray, List.set_cons_zero, List.set_cons_succ]
  refine AnyBut.take (i := 8) (v := ?_) rfl (by kernel_rfl) (by kernel_rfl) (by kernel_rfl) (by kernel_rfl) (fun _ _ _ h => h) (Or.inl ⟨by rfl, ?_⟩) hS ?_
  rotate_left
  · (intro wq hq; obtain ⟨hq1, hq2⟩ := hq; go_simp; try with_reducible rfl)
  simp only [Act.put, List.setIfInBounds_toArray, List.set_cons_zero, List.set_cons_succ]
  refine AnyBut.take (i := 10) (v := ?_) rfl (by kernel_rfl) (by kernel_rfl) (by kernel_rfl) (by kernel_rfl) (fun _ _ _ h => h) (Or.inl ⟨by rfl, ?_⟩) hS ?_
  rotate_left
  · (intro wq hq; obtain ⟨hq1, hq2⟩ := hq; go_simp; try with_reducible rfl)
  simp only [Act.put, List.setIfInBounds_toArray, List.set_cons_zero, List.set_cons_succ]
  refine AnyBut.take (i := 11) (v := ?_) rfl (by kernel_rfl) (by kernel_rfl) (by kernel_rfl) (by kernel_rfl) (fun _ _ _ h => h) (Or.inl ⟨by rfl, ?_⟩) hS ?_
  rotate_left
  · (intro wq hq; obtain ⟨hq1, hq2⟩ := hq; go_simp; try with_reducible rfl)
  simp only [Act.put, List.setIfInBounds_toArray, List.set_cons_zero, List.set_cons_succ]
  refine AnyBut.take (i := 12) (v := ?_) rfl (by kernel_rfl) (by kernel_rfl) (by kernel_rfl) (by kernel_rfl) (fun _ _ _ h => h) (Or.inl ⟨by rfl, ?_⟩) hS ?_
  rotate_left
  · (intro wq hq; obtain ⟨hq1, hq2⟩ := hq; go_simp; try with_reducible rfl)
  simp only [Act.put, List.setIfInBounds_toArray, List.set_cons_zero, List.set_cons_succ]
  refine AnyBut.take (i := 13) (v := ?_) rfl (by kernel_rfl) (by kernel_rfl) (by kernel_rfl) (by kernel_rfl) (fun _ _ _ h => h) (Or.inl ⟨by rfl, ?_⟩) hS ?_
  rotate_left
  · (intro wq hq; obtain ⟨hq1, hq2⟩ := hq; go_simp; try with_reducible rfl)
  simp only [Act.put, List.setIfInBounds_toArray, List.set_cons_zero, List.set_cons_succ]
  refine AnyBut.take (i := 14) (v := ?_) rfl (by kernel_rfl) (by kernel_rfl) (by kernel_rfl) (by kernel_rfl) (fun _ _ _ h => h) (Or.inl ⟨by rfl, ?_⟩) hS ?_
  rotate_left
  · (intro wq hq; obtain ⟨hq1, hq2⟩ := hq; go_simp; try with_reducible rfl)
  simp only [Act.put, List.setIfInBounds_toArray, List.set_cons_zero, List.set_cons_succ]
  refine AnyBut.take (i := 16) (v := ?_) rfl (by kernel_rfl) (by kernel_rfl) (by kernel_rfl) (by kernel_rfl) (fun _ _ _ h => h) (Or.inl ⟨by rfl, ?_⟩) hS ?_
  rotate_left
  · (intro wq hq; obtain ⟨hq1, hq2⟩ := hq; go_simp; try with_reducible rfl)
  simp only [Act.put, List.setIfInBounds_toArray, List.set_cons_zero, List.set_cons_succ]
  refine AnyBut.take (i := 19) (v := ?_) rfl (by kernel_rfl) (by kernel_rfl) (by kernel_rfl) (by kernel_rfl) (fun _ _ _ h => h) (Or.inl ⟨by rfl, ?_⟩) hS ?_
  rotate_left
  · (intro wq hq; obtain ⟨hq1, hq2⟩ := hq; go_simp; try with_reducible rfl)
  simp only [Act.put, List.setIfInBounds_toArray, List.set_cons_zero, List.set_cons_succ]
  refine AnyBut.take (i := 20) (v := ?_) rfl (by kernel_rfl) (by kernel_rfl) (by kernel_rfl) (by kernel_rfl) (fun _ _ _ h => h) (Or.inl ⟨by rfl, ?_⟩) hS ?_
  rotate_left
  · (intro wq hq; obtain ⟨hq1, hq2⟩ := hq; go_simp; try with_reducible rfl)
  simp only [Act.put, List.setIfInBounds_toArray, List.set_cons_zero, List.set_cons_succ]
  refine AnyBut.two (i := 5) (k := 17) (by kernel_rfl) rfl rfl rfl rfl (fun K hK => ?_) (fun K hK => ?_)
  · skip
    go_simp
    have hS : S2 b s m S M (w0.alloc (Obj.cells #[Value.int IntKind.i64 7, Value.int IntKind.i64 18] 3)) := ⟨cell_alloc _ hS.1, cell_alloc _ hS.2⟩
    have hF : (w0.alloc (Obj.cells #[Value.int IntKind.i64 7, Value.int IntKind.i64 18] 3)).frozen? ⟨b, m, none⟩ = false := frozen_alloc _ hL hF
    have hL : b < (w0.alloc (Obj.cells #[Value.int IntKind.i64 7, Value.int IntKind.i64 18] 3)).heap.size := by rw [World.size_alloc]; omega
    refine hK _ _ (fun _ => hS) ?_
    clear hK K
    try simp only [Act.put, List.setIfInBounds_toArray, List.set_cons_zero, List.set_cons_succ]
    refine AnyBut.two (i := 6) (k := 17) (by kernel_rfl) rfl rfl rfl rfl (fun K hK => ?_) (fun K hK => ?_)
    · skip
      go_simp
      ((with_reducible refine (turned2 F 7 18 _ _ _ ?_ ?_ (by decide)).mono ?_); (first | exact cell_new (by simp) rfl | exact cell_alloc _ (cell_new (by simp) rfl)); (first | exact cell_new (by simp) rfl | exact cell_alloc _ (cell_new (by simp) rfl)); rintro e w' ⟨rfl, rfl⟩; dsimp only)
      refine hK _ _ (fun _ => hS) ?_
      clear hK K
      try simp only [Act.put, List.setIfInBounds_toArray, List.set_cons_zero, List.set_cons_succ]
      refine AnyBut.take (i := 9) (v := ?_) rfl (by kernel_rfl) (by kernel_rfl) (by kernel_rfl) (by kernel_rfl) (fun _ _ _ h => h) (Or.inl ⟨by rfl, ?_⟩) hS ?_
      rotate_left
      · (intro wq hq; obtain ⟨hq1, hq2⟩ := hq; go_simp; try with_reducible rfl)
      simp only [Act.put, List.setIfInBounds_toArray, List.set_cons_zero, List.set_cons_succ]
      refine AnyBut.take (i := 15) (v := ?_) rfl (by kernel_rfl) (by kernel_rfl) (by kernel_rfl) (by kernel_rfl) (fun _ _ _ h => h) (Or.inl ⟨by rfl, ?_⟩) hS ?_
      rotate_left
      · (intro wq hq; obtain ⟨hq1, hq2⟩ := hq; go_simp; try with_reducible rfl)
      simp only [Act.put, List.setIfInBounds_toArray, List.set_cons_zero, List.set_cons_succ]
      refine AnyBut.one (i := 17) (by kernel_rfl) rfl rfl (fun K hK => ?_)
      go_simp
      have hS : S2 b s m S M ((w0.alloc (Obj.cells #[Value.int IntKind.i64 7, Value.int IntKind.i64 18] 3)).alloc (Obj.cells #[Value.int IntKind.i64 17, Value.int IntKind.i64 19] 3)) := ⟨cell_alloc _ hS.1, cell_alloc _ hS.2⟩
      have hF : ((w0.alloc (Obj.cells #[Value.int IntKind.i64 7, Value.int IntKind.i64 18] 3)).alloc (Obj.cells #[Value.int IntKind.i64 17, Value.int IntKind.i64 19] 3)).frozen? ⟨b, m, none⟩ = false := frozen_alloc _ hL hF
      have hL : b < ((w0.alloc (Obj.cells #[Value.int IntKind.i64 7, Value.int IntKind.i64 18] 3)).alloc (Obj.cells #[Value.int IntKind.i64 17, Value.int IntKind.i64 19] 3)).heap.size := by rw [World.size_alloc]; omega
      refine hK _ _ (fun _ => hS) ?_
      clear hK K
      try simp only [Act.put, List.setIfInBounds_toArray, List.set_cons_zero, List.set_cons_succ]
      refine AnyBut.one (i := 18) (by kernel_rfl) rfl rfl (fun K hK => ?_)
      go_simp
      ((with_reducible refine (turned2 N 17 19 _ _ _ ?_ ?_ (by decide)).mono ?_); (first | exact cell_new (by simp) rfl | exact cell_alloc _ (cell_new (by simp) rfl)); (first | exact cell_new (by simp) rfl | exact cell_alloc _ (cell_new (by simp) rfl)); rintro e w' ⟨rfl, rfl⟩; dsimp only)
      refine hK _ _ (fun _ => hS) ?_
      clear hK K
      try simp only [Act.put, List.setIfInBounds_toArray, List.set_cons_zero, List.set_cons_succ]
      refine AnyBut.take (i := 21) (v := ?_) rfl (by kernel_rfl) (by kernel_rfl) (by kernel_rfl) (by kernel_rfl) (fun _ _ _ h => h) (Or.inl ⟨by rfl, ?_⟩) hS ?_
      rotate_left
      · (intro wq hq; obtain ⟨hq1, hq2⟩ := hq; go_simp; try with_reducible rfl)
      simp only [Act.put, List.setIfInBounds_toArray, List.set_cons_zero, List.set_cons_succ]
      refine AnyBut.take (i := 22) (v := ?_) rfl (by kernel_rfl) (by kernel_rfl) (by kernel_rfl) (by kernel_rfl) (fun _ _ _ h => h) (Or.inl ⟨by rfl, ?_⟩) hS ?_
      rotate_left
      · (intro wq hq; obtain ⟨hq1, hq2⟩ := hq; go_simp; try with_reducible rfl)
      simp only [Act.put, List.setIfInBounds_toArray, List.set_cons_zero, List.set_cons_succ]
      refine AnyBut.take (i := 23) (v := ?_) rfl (by kernel_rfl) (by kernel_rfl) (by kernel_rfl) (by kernel_rfl) (fun _ _ _ h => h) (Or.inl ⟨by rfl, ?_⟩) hS ?_
      rotate_left
      · (intro wq hq; obtain ⟨hq1, hq2⟩ := hq; go_simp; try with_reducible rfl)
      simp only [Act.put, List.setIfInBounds_toArray, List.set_cons_zero, List.set_cons_succ]
      refine AnyBut.take (i := 24) (v := ?_) rfl (by kernel_rfl) (by kernel_rfl) (by kernel_rfl) (by kernel_rfl) (fun _ _ _ h => h) (Or.inl ⟨by rfl, ?_⟩) hS ?_
      rotate_left
      · (intro wq hq; obtain ⟨hq1, hq2⟩ := hq; go_simp; try with_reducible rfl)
      simp only [Act.put, List.setIfInBounds_toArray, List.set_cons_zero, List.set_cons_succ]
      refine AnyBut.one (i := 25) (by kernel_rfl) rfl rfl (fun K hK => ?_)
      have hq1 := hS.1
      have hq2 := hS.2
      go_simp
      refine hK _ _ (fun h => absurd rfl h) ?_
      clear hK K hS hq1 hq2 hF hL
      refine AnyBut.done (by kernel_rfl) ?_ _
      refine fin_step (G := Grn w b 62 (vs.set m (.int .u32 (U (M + ((trn F [7, 18] ^^^ F >>> 3) + S + (trn N [17, 19] ^^^ N >>> 10))))))) ?_ (fun W8 hG8 => ?_)
      · (repeat (first | refine Grn.alloc ?_ _ | refine Grn.set ?_ _ _))
        exact hG.out
      · have q := hG8.blk.cell (j := m) (v := .int .u32 (U (M + ((trn F [7, 18] ^^^ F >>> 3) + S + (trn N [17, 19] ^^^ N >>> 10))))) (by simp [hvs])
        have HG8 := Lib.hid hG8
        clear hG8 hG hadd hadd' hxor hs3 hs10 w7 e15 e2 e7
        generalize hV : (M + ((trn F [7, 18] ^^^ F >>> 3) + S + (trn N [17, 19] ^^^ N >>> 10))) = V at q HG8 ⊢
        have HV := Lib.hid hV
        clear hV
        go_wp2
        go_ret
        obtain rfl := HV.out
        exact ⟨rfl, HG8.out⟩
    · skip
      go_simp
      have hS : S2 b s m S M ((w0.alloc (Obj.cells #[Value.int IntKind.i64 7, Value.int IntKind.i64 18] 3)).alloc (Obj.cells #[Value.int IntKind.i64 17, Value.int IntKind.i64 19] 3)) := ⟨cell_alloc _ hS.1, cell_alloc _ hS.2⟩
      have hF : ((w0.alloc (Obj.cells #[Value.int IntKind.i64 7, Value.int IntKind.i64 18] 3)).alloc (Obj.cells #[Value.int IntKind.i64 17, Value.int IntKind.i64 19] 3)).frozen? ⟨b, m, none⟩ = false := frozen_alloc _ hL hF
      have hL : b < ((w0.alloc (Obj.cells #[Value.int IntKind.i64 7, Value.int IntKind.i64 18] 3)).alloc (Obj.cells #[Value.int IntKind.i64 17, Value.int IntKind.i64 19] 3)).heap.size := by rw [World.size_alloc]; omega
      refine hK _ _ (fun _ => hS) ?_
      clear hK K
      try simp only [Act.put, List.setIfInBounds_toArray, List.set_cons_zero, List.set_cons_succ]
      refine AnyBut.one (i := 6) (by kernel_rfl) rfl rfl (fun K hK => ?_)
      go_simp
      ((with_reducible refine (turned2 F 7 18 _ _ _ ?_ ?_ (by decide)).mono ?_); (first | exact cell_new (by simp) rfl | exact cell_alloc _ (cell_new (by simp) rfl)); (first | exact cell_new (by simp) rfl | exact cell_alloc _ (cell_new (by simp) rfl)); rintro e w' ⟨rfl, rfl⟩; dsimp only)
      refine hK _ _ (fun _ => hS) ?_
      clear hK K
      try simp only [Act.put, List.setIfInBounds_toArray, List.set_cons_zero, List.set_cons_succ]
      refine AnyBut.take (i := 9) (v := ?_) rfl (by kernel_rfl) (by kernel_rfl) (by kernel_rfl) (by kernel_rfl) (fun _ _ _ h => h) (Or.inl ⟨by rfl, ?_⟩) hS ?_
      rotate_left
      · (intro wq hq; obtain ⟨hq1, hq2⟩ := hq; go_simp; try with_reducible rfl)
      simp only [Act.put, List.setIfInBounds_toArray, List.set_cons_zero, List.set_cons_succ]
      refine AnyBut.take (i := 15) (v := ?_) rfl (by kernel_rfl) (by kernel_rfl) (by kernel_rfl) (by kernel_rfl) (fun _ _ _ h => h) (Or.inl ⟨by rfl, ?_⟩) hS ?_
      rotate_left
      · (intro wq hq; obtain ⟨hq1, hq2⟩ := hq; go_simp; try with_reducible rfl)
      simp only [Act.put, List.setIfInBounds_toArray, List.set_cons_zero, List.set_cons_succ]
      refine AnyBut.one (i := 18) (by kernel_rfl) rfl rfl (fun K hK => ?_)
      go_simp
      ((with_reducible refine (turned2 N 17 19 _ _ _ ?_ ?_ (by decide)).mono ?_); (first | exact cell_new (by simp) rfl | exact cell_alloc _ (cell_new (by simp) rfl)); (first | exact cell_new (by simp) rfl | exact cell_alloc _ (cell_new (by simp) rfl)); rintro e w' ⟨rfl, rfl⟩; dsimp only)
      refine hK _ _ (fun _ => hS) ?_
      clear hK K
      try simp only [Act.put, List.setIfInBounds_toArray, List.set_cons_zero, List.set_cons_succ]
      refine AnyBut.take (i := 21) (v := ?_) rfl (by kernel_rfl) (by kernel_rfl) (by kernel_rfl) (by kernel_rfl) (fun _ _ _ h => h) (Or.inl ⟨by rfl, ?_⟩) hS ?_
      rotate_left
      · (intro wq hq; obtain ⟨hq1, hq2⟩ := hq; go_simp; try with_reducible rfl)
      simp only [Act.put, List.setIfInBounds_toArray, List.set_cons_zero, List.set_cons_succ]
      refine AnyBut.take (i := 22) (v := ?_) rfl (by kernel_rfl) (by kernel_rfl) (by kernel_rfl) (by kernel_rfl) (fun _ _ _ h => h) (Or.inl ⟨by rfl, ?_⟩) hS ?_
      rotate_left
      · (intro wq hq; obtain ⟨hq1, hq2⟩ := hq; go_simp; try with_reducible rfl)
      simp only [Act.put, List.setIfInBounds_toArray, List.set_cons_zero, List.set_cons_succ]
      refine AnyBut.take (i := 23) (v := ?_) rfl (by kernel_rfl) (by kernel_rfl) (by kernel_rfl) (by kernel_rfl) (fun _ _ _ h => h) (Or.inl ⟨by rfl, ?_⟩) hS ?_
      rotate_left
      · (intro wq hq; obtain ⟨hq1, hq2⟩ := hq; go_simp; try with_reducible rfl)
      simp only [Act.put, List.setIfInBounds_toArray, List.set_cons_zero, List.set_cons_succ]
      refine AnyBut.take (i := 24) (v := ?_) rfl (by kernel_rfl) (by kernel_rfl) (by kernel_rfl) (by kernel_rfl) (fun _ _ _ h => h) (Or.inl ⟨by rfl, ?_⟩) hS ?_
      rotate_left
      · (intro wq hq; obtain ⟨hq1, hq2⟩ := hq; go_simp; try with_reducible rfl)
      simp only [Act.put, List.setIfInBounds_toArray, List.set_cons_zero, List.set_cons_succ]
      refine AnyBut.one (i := 25) (by kernel_rfl) rfl rfl (fun K hK => ?_)
      have hq1 := hS.1
      have hq2 := hS.2
      go_simp
      refine hK _ _ (fun h => absurd rfl h) ?_
      clear hK K hS hq1 hq2 hF hL
      refine AnyBut.done (by kernel_rfl) ?_ _
      refine fin_step (G := Grn w b 62 (vs.set m (.int .u32 (U (M + ((trn F [7, 18] ^^^ F >>> 3) + S + (trn N [17, 19] ^^^ N >>> 10))))))) ?_ (fun W8 hG8 => ?_)
      · (repeat (first | refine Grn.alloc ?_ _ | refine Grn.set ?_ _ _))
        exact hG.out
      · have q := hG8.blk.cell (j := m) (v := .int .u32 (U (M + ((trn F [7, 18] ^^^ F >>> 3) + S + (trn N [17, 19] ^^^ N >>> 10))))) (by simp [hvs])
        have HG8 := Lib.hid hG8
        clear hG8 hG hadd hadd' hxor hs3 hs10 w7 e15 e2 e7
        generalize hV : (M + ((trn F [7, 18] ^^^ F >>> 3) + S + (trn N [17, 19] ^^^ N >>> 10))) = V at q HG8 ⊢
        have HV := Lib.hid hV
        clear hV
        go_wp2
        go_ret
        obtain rfl := HV.out
        exact ⟨rfl, HG8.out⟩
  · skip
    go_simp
    have hS : S2 b s m S M (w0.alloc (Obj.cells #[Value.int IntKind.i64 17, Value.int IntKind.i64 19] 3)) := ⟨cell_alloc _ hS.1, cell_alloc _ hS.2⟩
    have hF : (w0.alloc (Obj.cells #[Value.int IntKind.i64 17, Value.int IntKind.i64 19] 3)).frozen? ⟨b, m, none⟩ = false := frozen_alloc _ hL hF
    have hL : b < (w0.alloc (Obj.cells #[Value.int IntKind.i64 17, Value.int IntKind.i64 19] 3)).heap.size := by rw [World.size_alloc]; omega
    refine hK _ _ (fun _ => hS) ?_
    clear hK K
    try simp only [Act.put, List.setIfInBounds_toArray, List.set_cons_zero, List.set_cons_succ]
    refine AnyBut.one (i := 5) (by kernel_rfl) rfl rfl (fun K hK => ?_)
    go_simp
    have hS : S2 b s m S M ((w0.alloc (Obj.cells #[Value.int IntKind.i64 17, Value.int IntKind.i64 19] 3)).alloc (Obj.cells #[Value.int IntKind.i64 7, Value.int IntKind.i64 18] 3)) := ⟨cell_alloc _ hS.1, cell_alloc _ hS.2⟩
    have hF : ((w0.alloc (Obj.cells #[Value.int IntKind.i64 17, Value.int IntKind.i64 19] 3)).alloc (Obj.cells #[Value.int IntKind.i64 7, Value.int IntKind.i64 18] 3)).frozen? ⟨b, m, none⟩ = false := frozen_alloc _ hL hF
    have hL : b < ((w0.alloc (Obj.cells #[Value.int IntKind.i64 17, Value.int IntKind.i64 19] 3)).alloc (Obj.cells #[Value.int IntKind.i64 7, Value.int IntKind.i64 18] 3)).heap.size := by rw [World.size_alloc]; omega
    refine hK _ _ (fun _ => hS) ?_
    clear hK K
    try simp only [Act.put, List.setIfInBounds_toArray, List.set_cons_zero, List.set_cons_succ]
    refine AnyBut.one (i := 6) (by kernel_rfl) rfl rfl (fun K hK => ?_)
    go_simp
    ((with_reducible refine (turned2 F 7 18 _ _ _ ?_ ?_ (by decide)).mono ?_); (first | exact cell_new (by simp) rfl | exact cell_alloc _ (cell_new (by simp) rfl)); (first | exact cell_new (by simp) rfl | exact cell_alloc _ (cell_new (by simp) rfl)); rintro e w' ⟨rfl, rfl⟩; dsimp only)
    refine hK _ _ (fun _ => hS) ?_
    clear hK K
    try simp only [Act.put, List.setIfInBounds_toArray, List.set_cons_zero, List.set_cons_succ]
    refine AnyBut.take (i := 9) (v := ?_) rfl (by kernel_rfl) (by kernel_rfl) (by kernel_rfl) (by kernel_rfl) (fun _ _ _ h => h) (Or.inl ⟨by rfl, ?_⟩) hS ?_
    rotate_left
    · (intro wq hq; obtain ⟨hq1, hq2⟩ := hq; go_simp; try with_reducible rfl)
    simp only [Act.put, List.setIfInBounds_toArray, List.set_cons_zero, List.set_cons_succ]
    refine AnyBut.take (i := 15) (v := ?_) rfl (by kernel_rfl) (by kernel_rfl) (by kernel_rfl) (by kernel_rfl) (fun _ _ _ h => h) (Or.inl ⟨by rfl, ?_⟩) hS ?_
    rotate_left
    · (intro wq hq; obtain ⟨hq1, hq2⟩ := hq; go_simp; try with_reducible rfl)
    simp only [Act.put, List.setIfInBounds_toArray, List.set_cons_zero, List.set_cons_succ]
    refine AnyBut.one (i := 18) (by kernel_rfl) rfl rfl (fun K hK => ?_)
    go_simp
    ((with_reducible refine (turned2 N 17 19 _ _ _ ?_ ?_ (by decide)).mono ?_); (first | exact cell_new (by simp) rfl | exact cell_alloc _ (cell_new (by simp) rfl)); (first | exact cell_new (by simp) rfl | exact cell_alloc _ (cell_new (by simp) rfl)); rintro e w' ⟨rfl, rfl⟩; dsimp only)
    refine hK _ _ (fun _ => hS) ?_
    clear hK K
    try simp only [Act.put, List.setIfInBounds_toArray, List.set_cons_zero, List.set_cons_succ]
    refine AnyBut.take (i := 21) (v := ?_) rfl (by kernel_rfl) (by kernel_rfl) (by kernel_rfl) (by kernel_rfl) (fun _ _ _ h => h) (Or.inl ⟨by rfl, ?_⟩) hS ?_
    rotate_left
    · (intro wq hq; obtain ⟨hq1, hq2⟩ := hq; go_simp; try with_reducible rfl)
    simp only [Act.put, List.setIfInBounds_toArray, List.set_cons_zero, List.set_cons_succ]
    refine AnyBut.take (i := 22) (v := ?_) rfl (by kernel_rfl) (by kernel_rfl) (by kernel_rfl) (by kernel_rfl) (fun _ _ _ h => h) (Or.inl ⟨by rfl, ?_⟩) hS ?_
    rotate_left
    · (intro wq hq; obtain ⟨hq1, hq2⟩ := hq; go_simp; try with_reducible rfl)
    simp only [Act.put, List.setIfInBounds_toArray, List.set_cons_zero, List.set_cons_succ]
    refine AnyBut.take (i := 23) (v := ?_) rfl (by kernel_rfl) (by kernel_rfl) (by kernel_rfl) (by kernel_rfl) (fun _ _ _ h => h) (Or.inl ⟨by rfl, ?_⟩) hS ?_
    rotate_left
    · (intro wq hq; obtain ⟨hq1, hq2⟩ := hq; go_simp; try with_reducible rfl)
    simp only [Act.put, List.setIfInBounds_toArray, List.set_cons_zero, List.set_cons_succ]
    refine AnyBut.take (i := 24) (v := ?_) rfl (by kernel_rfl) (by kernel_rfl) (by kernel_rfl) (by kernel_rfl) (fun _ _ _ h => h) (Or.inl ⟨by rfl, ?_⟩) hS ?_
    rotate_left
    · (intro wq hq; obtain ⟨hq1, hq2⟩ := hq; go_simp; try with_reducible rfl)
    simp only [Act.put, List.setIfInBounds_toArray, List.set_cons_zero, List.set_cons_succ]
    refine AnyBut.one (i := 25) (by kernel_rfl) rfl rfl (fun K hK => ?_)
    have hq1 := hS.1
    have hq2 := hS.2
    go_simp
    refine hK _ _ (fun h => absurd rfl h) ?_
    clear hK K hS hq1 hq2 hF hL
    refine AnyBut.done (by kernel_rfl) ?_ _
    refine fin_step (G := Grn w b 62 (vs.set m (.int .u32 (U (M + ((trn F [7, 18] ^^^ F >>> 3) + S + (trn N [17, 19] ^^^ N >>> 10))))))) ?_ (fun W8 hG8 => ?_)
    · (repeat (first | refine Grn.alloc ?_ _ | refine Grn.set ?_ _ _))
      exact hG.out
    · have q := hG8.blk.cell (j := m) (v := .int .u32 (U (M + ((trn F [7, 18] ^^^ F >>> 3) + S + (trn N [17, 19] ^^^ N >>> 10))))) (by simp [hvs])
      have HG8 := Lib.hid hG8
      clear hG8 hG hadd hadd' hxor hs3 hs10 w7 e15 e2 e7
      generalize hV : (M + ((trn F [7, 18] ^^^ F >>> 3) + S + (trn N [17, 19] ^^^ N >>> 10))) = V at q HG8 ⊢
      have HV := Lib.hid hV
      clear hV
      go_wp2
      go_ret
      obtain rfl := HV.out
      exact ⟨rfl, HG8.out⟩
theorem next_ge (L : List (BitVec 32)) (i b : Nat) (w : World) (hl : L.length = 16) (hi : 16 ≤ i) (hi' : i < 64) (hb : Blk w b 62 (vus L)) :
    Calls Tryd.prog 39 #[.int .i64 i, .pointer (some ⟨b, 0, none⟩)] w fun e w' => e = .returned (.int .u32 (U (nxt L i))) ∧ Grn w b 62 (vus (L.set (i % 16) (nxt L i))) w' := by
  have e15 := and15 i 15 (by omega) (by omega)
  have e2 := and15 i 2 (by omega) (by omega)
  have e7 := and15 i 7 (by omega) (by omega)
  have e0 := and15 i 0 (by omega) (by omega)
  simp only [Nat.sub_zero, Int.natCast_zero, Int.sub_zero] at e0
  have at_ := fun j (hj : j < 16) => hb.cell (vus_at (l := L) (j := j) (by omega))
  refine (next_core i b ((i - 15) % 16) ((i - 2) % 16) ((i - 7) % 16) (i % 16) _ _ _ _ w hi hi' e15 e2 e7 e0 (by omega) (by omega) (by omega) (by omega) (at_ _ (by omega)) (at_ _ (by omega)) (at_ _ (by omega)) (at_ _ (by omega)) (hb.free _) hb.lt (by omega) (vus L) (by simp only [vus, List.length_map]; omega) hb).mono fun e w' ⟨he, hg⟩ => ⟨he, ?_⟩
  rw [vus_set] at hg
  exact hg
set_option maxHeartbeats 1000000 in
theorem next_lt (L : List (BitVec 32)) (i b : Nat) (w : World) (hl : L.length = 16) (hi : i < 16) (hb : Blk w b 62 (vus L)) :
    Calls Tryd.prog 39 #[.int .i64 i, .pointer (some ⟨b, 0, none⟩)] w fun e w' => e = .returned (.int .u32 (U (L.getD i 0))) ∧ w = w' := by
  have hc := hb.cell (vus_at (l := L) (j := i) (by omega))
  have e0 := and15 i 0 (by omega) (by omega)
  rw [Nat.sub_zero, Nat.mod_eq_of_lt hi] at e0
  simp only [Int.natCast_zero, Int.sub_zero] at e0
  have h0 : (0 : Int) ≤ (i : Int) := by omega
  have h1 : (i : Int) < 16 := by omega
  clear hb hl
  go_enter Tryd.func39, Tryd.ntmps39
  go_wp2
  go_ret
  exact ⟨rfl, rfl⟩
end Go.Proofs.YtjbjkddgefiicaaDoor
