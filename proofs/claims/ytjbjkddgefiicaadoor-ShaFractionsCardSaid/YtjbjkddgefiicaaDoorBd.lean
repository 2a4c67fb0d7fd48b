/- A byte appended to a row of the call's own; what the document's own Text returns: the same as the program's. -/
import Derived.Test.YtjbjkddgefiicaaDoorBc
namespace Go.Proofs.YtjbjkddgefiicaaDoor
open Go.RowKit
set_option linter.unusedVariables false
set_option linter.unusedSimpArgs false
theorem wpList_app {w : World} {ops : Array Oper} {rest : List Oper} {o : Oper} {a : Act} {Q : Exit → Act → World → Prop} (hgd : o.guard = none) (s x : Operand) (ho : o.op = .call { callee := .builtin .append, args := #[s, x], argTypes := #[22, 22] }) (hty : o.type = 22)
    (base : Nat) (v : Value) (n : Nat) (xs : List Value) (hs : a.eval s = v) (hown : w.ownsRow base 5 1 v n xs) (A : Option Addr) (m c : Nat) (news : List Value) (hx : a.eval x = .slice A m c) (hsr : Src22 w A m news) (hc : A = none → c = 0) (hb : n + m ≤ 140737488355328) (hbase : base ≤ w.heap.size)
    (h : ∀ v' w', w'.ownsRow base 5 1 v' (n + m) (xs ++ news) → w.grownBy w' v.ownBlock → wpList Tryd.prog ops Q rest (a.put o.dst v') w') : wpList Tryd.prog ops Q (o :: rest) a w :=
  wpList_plain hgd fun _ hK => wp_app s x ho hty base v n xs hs hown A m c news hx hsr hc hb hbase fun v' w' h2 h3 => hK _ _ (h v' w' h2 h3)
/-- The call's own row v holds the bytes L. -/
def OB (w : World) (B : Nat) (v : Value) (L : List (BitVec 8)) : Prop := w.ownsRow B 5 1 v L.length (vbs L)
theorem OB.nil (w : World) (B : Nat) : OB w B (.slice none 0 0) [] := World.ownsRow_nil w B 5 1
theorem OB.below {w w' : World} {B B' : Nat} {v : Value} {L : List (BitVec 8)} (h : OB w B v L) (hb : Below w.heap.size w w') : OB w' B v L := by
  refine ⟨h.1, ?_⟩
  rcases h.2 with hn | ⟨g, cap, cur, rfl, hbb, hgg, rest⟩
  · exact .inl hn
  · exact .inr ⟨g, cap, cur, rfl, hbb, by rw [hb.block g (Array.getElem?_eq_some_iff.1 hgg).1]; exact hgg, rest⟩
theorem OB.alloc {w : World} {B : Nat} {v : Value} {L : List (BitVec 8)} (h : OB w B v L) (o : Obj) : OB (w.alloc o) B v L := World.ownsRow.alloc h o
theorem OB.drew {w : World} {B : Nat} {v : Value} {L : List (BitVec 8)} (h : OB w B v L) : OB w.drew B v L := h
theorem OB.rd {w : World} {B : Nat} {v : Value} {L : List (BitVec 8)} (h : OB w B v L) : ∃ A cap, v = .slice A L.length cap ∧ Rd w w.heap.size A L ∧ L.length ≤ cap ∧ cap ≤ 9223372036854775807 ∧ (A = none → cap = 0) := rd_of_owns h
/-- Behind an append. -/
theorem OB.app {w0 w w' : World} {B B' : Nat} {v v' : Value} {L M : List (BitVec 8)} (h : OB w B v L) (hb : Below B' w0 w) (hB : B ≤ w.heap.size) (hBB : B' ≤ B) (h2 : w'.ownsRow B 5 1 v' (L.length + M.length) (vbs L ++ vbs M)) (h3 : w.grownBy w' v.ownBlock) : OB w' B v' (L ++ M) ∧ Below B' w0 w' := by
  refine ⟨?_, hb.grown h3 (Nat.le_trans hBB hB) (fun k hk => Nat.le_trans hBB (World.ownsRow.lt h k hk).1)⟩
  unfold OB
  rw [List.length_append, show vbs (L ++ M) = vbs L ++ vbs M by simp [vbs]]
  exact h2
theorem wpList_push {w : World} {ops : Array Oper} {rest : List Oper} {o : Oper} {a : Act} {Q : Exit → Act → World → Prop} (hgd : o.guard = none) (s x : Operand) (ho : o.op = .call { callee := .builtin .append, args := #[s, x], argTypes := #[22, 22] }) (hty : o.type = 22)
    (B : Nat) (v : Value) (L M : List (BitVec 8)) (hs : a.eval s = v) (hown : OB w B v L) (A : Option Addr) (m c : Nat) (hx : a.eval x = .slice A m c) (hm : m = M.length) (hsr : Src22 w A M.length (vbs M)) (hc : A = none → c = 0) (hb : L.length + M.length ≤ 140737488355328) {w0 : World} {B' : Nat} (hbel : Below B' w0 w) (hB : B ≤ w.heap.size) (hBB : B' ≤ B)
    (h : ∀ v' w', OB w' B v' (L ++ M) → Below B' w0 w' → Below B w w' → wpList Tryd.prog ops Q rest (a.put o.dst v') w') : wpList Tryd.prog ops Q (o :: rest) a w := by
  subst hm
  exact wpList_app hgd s x ho hty B v L.length (vbs L) hs hown A M.length c (vbs M) hx hsr hc hb hB fun v' w' h2 h3 => by
    have hA := OB.app hown hbel hB hBB h2 h3
    exact h v' w' hA.1 hA.2 ((Below.refl B w).grown h3 hB (fun k hk => (World.ownsRow.lt hown k hk).1))
theorem one_len (x : BitVec 8) : 1 = [x].length := rfl
theorem src_one (w : World) (x : BitVec 8) : Src22 (w.alloc (.cells #[.int .u8 (Bt x)] 5)) (some ⟨w.heap.size, 0, none⟩) 1 (vbs [x]) :=
  src_of_blk (Blk.new w 5 #[.int .u8 (Bt x)])
theorem run_conv_slice {P : Program} (w : World) (hu22 : P.underlying 22 = some (.slice 5)) (hu5 : P.underlying 5 = some (.int .u8)) (hu9 : P.underlying 9 = some .string) (A : Option Addr) (L : List (BitVec 8)) (n c : Nat) (hn : n = L.length) (B : Nat) (h : Rd w B A L) : (convert 22 9 (.slice A n c)).run P w = .ok (.string (strB L)) w := by
  subst hn
  cases L with
  | nil =>
    cases A with
    | none => rw [run_convert_bytes_string w 22 9 5 _ _ _ hu22 hu5 hu9]; rfl
    | some a =>
      rw [run_convert_bytes_string w 22 9 5 _ _ _ hu22 hu5 hu9]
      exact run_bytesToString w a 0 c [] rfl
  | cons x L =>
    obtain ⟨b, o, rfl, hlt, hc⟩ := h (by simp)
    rw [run_convert_bytes_string w 22 9 5 _ _ _ hu22 hu5 hu9]
    have hl : (loadCells ⟨b, o, none⟩ (x :: L).length).run P w = .ok (((x :: L).map Bt).map (Value.int .u8)).toArray w := by
      have := run_loadCells_list (P := P) w ⟨b, o, none⟩ (vbs (x :: L)) (fun j v hv => by
        have hl := (List.getElem?_eq_some_iff.1 hv).1
        rw [vbs_len] at hl
        rw [vbs_at hl] at hv
        rw [Addr.add_mid, hc j hl]; exact hv)
      rw [vbs_len] at this
      rw [this]
      simp [vbs]
    exact run_bytesToString w ⟨b, o, none⟩ _ _ ((x :: L).map Bt) hl
theorem Bt_tdiv (x : BitVec 8) : (Bt x).tdiv 16 % (256 : Int) = ((x.toNat / 16 : Nat) : Int) := by
  have := x.isLt
  unfold Bt
  rw [show ((x.toNat : Int).tdiv 16) = ((x.toNat / 16 : Nat) : Int) from rfl]
  omega
theorem Bt_tmod (x : BitVec 8) : (Bt x).tmod 16 % (256 : Int) = ((x.toNat % 16 : Nat) : Int) := by
  have := x.isLt
  unfold Bt
  rw [show ((x.toNat : Int).tmod 16) = ((x.toNat % 16 : Nat) : Int) from rfl]
  omega
theorem Bt_tmod' (x : BitVec 8) : (Bt x).tmod 16 = ((x.toNat % 16 : Nat) : Int) := rfl
theorem Bt_modi (x : BitVec 8) : Bt x % (16 : Int) = ((x.toNat % 16 : Nat) : Int) := by unfold Bt; simp
structure XR (w : World) (R : List (BitVec 8)) (L : List (BitVec 8)) (v : Value) (wq : World) : Prop where
  bel : Below w.heap.size w wq
  b0 : Blk wq w.heap.size 25 (vbs R)
  own : OB wq (w.heap.size + 1) v L
set_option maxRecDepth 100000 in
set_option maxHeartbeats 2000000 in
theorem rtext_any (R : List (BitVec 8)) (hR : R.length = 32) (w : World) :
    Calls Tryd.prog 21 #[.agg (vbs R).toArray] w fun e w' => e = .returned (.string (strB (hexs R))) ∧ Below w.heap.size w w' := by
  have hb0 : Below w.heap.size w (w.alloc (Obj.cells (vbs R).toArray 25)) := (Below.refl _ _).alloc (Nat.le_refl _) _
  have h0 := Blk.new w 25 (vbs R).toArray
  rw [List.toList_toArray] at h0
  have HST := Lib.hid (⟨hb0, h0, OB.nil _ _⟩ : XR w R [] (.slice none 0 0) (w.alloc (Obj.cells (vbs R).toArray 25)))
  have HR := Lib.hid hR
  clear hb0 h0 hR
  go_enter Tryd.func21, Tryd.ntmps21
  go_wp2_with fail
  generalize w.alloc (Obj.cells (vbs R).toArray 25) = w3 at HST ⊢
  go_loopw [3, 4] (fun v i wq => ∃ k : Nat, k ≤ 32 ∧ i = .int .i64 k ∧ XR w R (hexs (R.take k)) v wq) (fun _ i _ => 32 - (intOf i).toNat)
  case atStart => exact ⟨0, Nat.zero_le _, rfl, HST.out⟩
  case round =>
    obtain ⟨k, hk, rfl, hX⟩ := hrel
    have HX := Lib.hid hX
    clear HST hX
    by_cases hlt : k < 32
    · have k1 : (k : Int) < 32 := by omega
      go_wp2_with fail
      go_loopw [3, 5] (fun v i wq => ∃ j : Nat, j ≤ 2 ∧ i = .int .i64 j ∧ XR w R (hexs (R.take k) ++ [dig ((R.getD k 0).toNat / 16), dig ((R.getD k 0).toNat % 16)].take j) v wq) (fun _ i _ => 2 - (intOf i).toNat)
      case atStart => exact ⟨0, Nat.zero_le _, rfl, by simpa using HX.out⟩
      case round =>
        obtain ⟨j, hj, rfl, hX⟩ := hrel
        clear HX
        have HX := Lib.hid hX
        have c0 := hX.b0.cell (vbs_at (l := R) (j := k) (by rw [HR.out]; omega))
        have k0 : (0 : Int) ≤ (k : Int) := by omega
        clear hX
        obtain ⟨x, hx⟩ : ∃ x, x = R.getD k 0 := ⟨_, rfl⟩
        have HXx := Lib.hid hx
        rw [← hx] at c0 HX
        have d1 := Bt_tdiv x
        have d2 := Bt_tmod x
        have d3 := Bt_tmod' x
        obtain ⟨q, hq⟩ : ∃ q, q = x.toNat / 16 := ⟨_, rfl⟩
        obtain ⟨r, hr⟩ : ∃ r, r = x.toNat % 16 := ⟨_, rfl⟩
        rw [← hq] at d1 HX
        rw [← hr] at d2 d3 HX
        have g1 := fun wz => digit_at q (by have := x.isLt; omega) wz
        have g2 := fun wz => digit_at r (by omega) wz
        have HQ := Lib.hid hq
        have HRr := Lib.hid hr
        have hLl : (hexs (R.take k)).length ≤ 64 := by rw [hexs_len, List.length_take]; omega
        obtain ⟨L0, hL0⟩ : ∃ L0, L0 = hexs (R.take k) := ⟨_, rfl⟩
        have HL0 := Lib.hid hL0
        rw [← hL0] at HX hLl
        have hbs : w.heap.size + 1 ≤ wr.heap.size := HX.out.b0.lt
        have HLl := Lib.hid hLl
        clear hx hq hr hL0 hLl
        by_cases h0 : j = 0
        · subst h0
          have HO := Lib.hid (HX.out.own.alloc (.cells #[.int .u8 (Bt (dig q))] 5))
          have hs := Lib.hid (src_one wr (dig q))
          have hB2 := Lib.hid (HX.out.bel.alloc (Nat.le_trans (Nat.le_succ _) hbs) (.cells #[.int .u8 (Bt (dig q))] 5))
          clear d2 d3 g2
          go_wp2_with (refine wpList_push (o := ⟨some 31, _, _, _, _, _⟩) rfl (.tmp 28) (.tmp 30) rfl rfl (w.heap.size + 1) _ _ [dig q] rfl HO.out (some ⟨wr.heap.size, 0, none⟩) 1 1 rfl (one_len _) hs.out (fun h => by cases h) (by have := HLl.out; simp; omega) hB2.out (by simp; omega) (Nat.le_succ _) ?_; intro v' w' h1 h2 h3)
          go_roundw
          case rel =>
            refine ⟨1, by omega, rfl, h2, ?_, ?_⟩
            · exact (HX.out.b0.alloc _).below h3 (by omega)
            · rw [← HXx.out, ← HQ.out, ← HRr.out, ← HL0.out]; simpa using h1
          case measure => simp [intOf]
        · by_cases h1 : j = 1
          · subst h1
            have HO := Lib.hid (HX.out.own.alloc (.cells #[.int .u8 (Bt (dig r))] 5))
            have hs := Lib.hid (src_one wr (dig r))
            have hB2 := Lib.hid (HX.out.bel.alloc (Nat.le_trans (Nat.le_succ _) hbs) (.cells #[.int .u8 (Bt (dig r))] 5))
            clear g1
            go_wp2_with (refine wpList_push (o := ⟨some 31, _, _, _, _, _⟩) rfl (.tmp 28) (.tmp 30) rfl rfl (w.heap.size + 1) _ _ [dig r] rfl HO.out (some ⟨wr.heap.size, 0, none⟩) 1 1 rfl (one_len _) hs.out (fun h => by cases h) (by have := HLl.out; simp; omega) hB2.out (by simp; omega) (Nat.le_succ _) ?_; intro v' w' h1 h2 h3)
            go_roundw
            case rel =>
              refine ⟨2, by omega, rfl, h2, ?_, ?_⟩
              · exact (HX.out.b0.alloc _).below h3 (by omega)
              · rw [← HXx.out, ← HQ.out, ← HRr.out, ← HL0.out]; simpa using h1
            case measure => simp [intOf]
          · obtain rfl : j = 2 := by omega
            clear g1 g2 d1 d2 d3 c0
            go_wp2_with fail
            go_roundw
            case rel =>
              refine ⟨k + 1, by omega, by simp, HX.out.bel, HX.out.b0, ?_⟩
              have := HX.out.own
              rw [HL0.out, HQ.out, HRr.out, HXx.out] at this
              rw [List.take_succ_eq_append_getElem (by rw [HR.out]; omega), hexs_snoc]
              have e : R.getD k 0 = R[k]'(by rw [HR.out]; omega) := by simp [List.getD, HR.out, hlt]
              rw [← e]
              simpa using this
            case measure => simp [intOf]; omega
    · obtain rfl : k = 32 := by omega
      have e32 : R.take 32 = R := List.take_of_length_le (by rw [HR.out]; omega)
      rw [e32] at HX
      obtain ⟨A, cap, rfl, hR2, h1, h2, h3⟩ := HX.out.own.rd
      obtain ⟨n, hn⟩ : ∃ n, n = (hexs R).length := ⟨_, rfl⟩
      have hcv := run_conv_slice (P := Tryd.prog) wr Tryd.underlying22 Tryd.underlying5 Tryd.underlying9 A (hexs R) n cap hn _ hR2
      have HB := Lib.hid HX.out.bel
      rw [← hn]
      clear h1 h2 h3 hR2 HX hn
      go_wp2
      go_ret
      exact ⟨rfl, HB.out⟩
end Go.Proofs.YtjbjkddgefiicaaDoor
