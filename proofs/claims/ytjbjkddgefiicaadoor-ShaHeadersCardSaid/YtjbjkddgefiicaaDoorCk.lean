/- What the document's own Sum returns: the same digest as the program's. -/
import Derived.Test.YtjbjkddgefiicaaDoorCe
import Derived.Test.YtjbjkddgefiicaaDoorCi
import Derived.Test.YtjbjkddgefiicaaDoorCj
namespace Go.Proofs.YtjbjkddgefiicaaDoor
open Go.RowKit
set_option linter.unusedVariables false
set_option linter.unusedSimpArgs false
theorem wp_push {w : World} {o : Oper} {a : Act} {K : Act → World → Prop} {Q : Exit → Act → World → Prop} (s x : Operand) (ho : o.op = .call { callee := .builtin .append, args := #[s, x], argTypes := #[22, 22] }) (hty : o.type = 22)
    (B : Nat) (v : Value) (L M : List (BitVec 8)) (hs : a.eval s = v) (hown : OB w B v L) (A : Option Addr) (m c : Nat) (hx : a.eval x = .slice A m c) (hm : m = M.length) (hsr : Src22 w A M.length (vbs M)) (hc : A = none → c = 0) (hb : L.length + M.length ≤ 140737488355328) {w0 : World} {B' : Nat} (hbel : Below B' w0 w) (hB : B ≤ w.heap.size) (hBB : B' ≤ B)
    (h : ∀ v' w', OB w' B v' (L ++ M) → Below B' w0 w' → Below B w w' → K (a.put o.dst v') w') : o.wp Tryd.prog a w K Q := by
  subst hm
  exact wp_app s x ho hty B v L.length (vbs L) hs hown A M.length c (vbs M) hx hsr hc hb hB fun v' w' h2 h3 => by
    have hA := OB.app hown hbel hB hBB h2 h3
    exact h v' w' hA.1 hA.2 ((Below.refl B w).grown h3 hB (fun k hk => (World.ownsRow.lt hown k hk).1))
/-- What stays through the chunks. -/
structure SQ (w : World) (R : List (BitVec 8)) (A : Option Addr) (kb : Nat) (wq : World) : Prop where
  bel : Below w.heap.size w wq
  rd : Rd wq wq.heap.size A R
  k : Blk wq kb 29 (vus KK)
  r : Blk wq w.heap.size 25 (vbs Z32)
theorem SQ.below {w : World} {R : List (BitVec 8)} {A : Option Addr} {kb : Nat} {wq w' : World} (h : SQ w R A kb wq) (hb : Below wq.heap.size wq w') : SQ w R A kb w' :=
  ⟨h.bel.trans (hb.mono h.bel.size), rd_up (h.rd.keep hb) hb.size, h.k.below hb h.k.lt, h.r.below hb h.r.lt⟩
/-- The first k bytes of the digest. -/
def jb (S : St) (k : Nat) : List (BitVec 8) := (List.range 32).map fun j => if j < k then byteOf S j else 0
theorem jb_len (S : St) (k : Nat) : (jb S k).length = 32 := by simp [jb]
theorem jb_step (S : St) (k : Nat) (hk : k < 32) : (jb S k).set k (byteOf S k) = jb S (k + 1) := by
  apply List.ext_getElem
  · simp [jb]
  · intro i h1 h2
    simp only [jb, List.getElem_set, List.getElem_map, List.getElem_range]
    by_cases e : k = i
    · subst e; simp
    · simp only [e, if_false]
      by_cases h : i < k
      · rw [if_pos h, if_pos (by omega)]
      · rw [if_neg h, if_neg (by omega)]
theorem jb_end (S : St) : jb S 32 = joinB S := by
  unfold jb joinB
  apply List.map_congr_left
  intro j hj
  rw [if_pos (List.mem_range.1 hj)]
theorem jb_zero (S : St) : jb S 0 = Z32 := by
  apply List.ext_getElem
  · rw [jb_len, Z32_len]
  · intro i h1 h2
    have e : Z32[i] = 0 := by unfold Z32; exact List.getElem_replicate _
    rw [e]; simp [jb]
theorem stl_letter (S : St) (j : Nat) (h : j < 8) : (stl S).getD j 0 = letter S j := by
  have : j = 0 ∨ j = 1 ∨ j = 2 ∨ j = 3 ∨ j = 4 ∨ j = 5 ∨ j = 6 ∨ j = 7 := by omega
  rcases this with rfl | rfl | rfl | rfl | rfl | rfl | rfl | rfl <;> rfl
theorem U_div256 (x : BitVec 32) : IntKind.u32.wrap ((U x).tdiv 256) = U (x >>> 8) := by
  have h := x.isLt
  rw [IntKind.wrap_u32']
  unfold U
  rw [Int.tdiv_eq_ediv_of_nonneg (Int.natCast_nonneg _), BitVec.toNat_ushiftRight, Nat.shiftRight_eq_div_pow]
  omega
theorem U_byte (x : BitVec 32) : IntKind.u8.wrap ((U x).tmod 256) = Bt (x.setWidth 8) := by
  rw [IntKind.wrap_u8']
  unfold U Bt
  rw [Int.tmod_eq_emod_of_nonneg (Int.natCast_nonneg _), BitVec.toNat_setWidth]
  omega
theorem U_byte' (x : BitVec 32) : IntKind.u8.wrap (IntKind.u32.wrap ((U x).tmod 256)) = Bt (x.setWidth 8) := by
  rw [IntKind.wrap_u8', IntKind.wrap_u32']
  unfold U Bt
  rw [Int.tmod_eq_emod_of_nonneg (Int.natCast_nonneg _), BitVec.toNat_setWidth]
  omega
set_option maxRecDepth 100000 in
set_option maxHeartbeats 8000000 in
theorem rsum_any (A : Option Addr) (cap : Nat) (R : List (BitVec 8)) (w : World) (hR : Rd w w.heap.size A R) (hcap : R.length ≤ cap) (hA : A = none → cap = 0) (hl : R.length < 1000000000) :
    Calls Tryd.prog 13 #[.slice A R.length cap] w fun e w' => e = .returned (.agg (vbs (sumB R)).toArray) ∧ Below w.heap.size w w' := by
  rw [← sumR_eq R (by omega)]
  have hz : ∀ w, (zeroValue 25).run Tryd.prog w = .ok (.agg (vbs Z32).toArray) w := fun _ => by kernel_rfl
  have hb0 : Below w.heap.size w (w.alloc (Obj.cells (vbs Z32).toArray 25)) := (Below.refl _ _).alloc (Nat.le_refl _) _
  have hr0 := Blk.new w 25 (vbs Z32).toArray
  rw [List.toList_toArray] at hr0
  have HR0 := Lib.hid hr0
  have HB0 := Lib.hid hb0
  have HS0 := Lib.hid (src_of_rd (rd_up (hR.keep hb0) hb0.size))
  have HA := Lib.hid hA
  have HO0 := Lib.hid (OB.nil (w.alloc (Obj.cells (vbs Z32).toArray 25)) (w.heap.size + 1))
  have HBs := Lib.hid (show w.heap.size + 1 ≤ (w.alloc (Obj.cells (vbs Z32).toArray 25)).heap.size by simp)
  have HLen : Hid (([] : List (BitVec 8)).length + R.length ≤ 140737488355328) := by show ([] : List (BitVec 8)).length + R.length ≤ _; simp; omega
  clear hR hb0 hr0 hA
  go_enter Tryd.func13, Tryd.ntmps13
  go_upto_region 3 with (refine wpList_push (o := ⟨some 13, _, _, _, _, _⟩) rfl (.tmp 11) (.tmp 12) rfl rfl (w.heap.size + 1) _ [] R rfl HO0.out A R.length cap rfl rfl HS0.out HA.out HLen.out HB0.out HBs.out (Nat.le_succ _) ?_; intro v1 w1 ho1 hb1 hb1')
  have HR1 := Lib.hid (HR0.out.below hb1' (by omega))
  have HO1 := Lib.hid ho1
  have HB1 := Lib.hid hb1
  have HBs1 := Lib.hid (Nat.le_trans HBs.out hb1'.size)
  have HC := Lib.hid (closing_any R.length (by omega) w1)
  have HLen2 : Hid (([] ++ R).length + (closeB R.length).length ≤ 140737488355328) := by
    show ([] ++ R).length + (closeB R.length).length ≤ _
    have := nz_lt R.length
    rw [close_len, List.nil_append]; omega
  clear ho1 hb1 hb1' hz HR0 HB0 HS0 HO0 HLen HA
  go_upto_region 4 with (first | (go_at_call 25; (with_reducible refine HC.out.mono ?_); rintro e w2 ⟨v2, rfl, ho2, hb2⟩; dsimp only; obtain ⟨A2, cap2, rfl, hrd2, hl2, hm2, hn2⟩ := ho2.rd) | (refine wpList_push (o := ⟨some 18, _, _, _, _, _⟩) (w := w2) (v := v1) (L := [] ++ R) (M := closeB R.length) (B := w.heap.size + 1) (A := A2) (m := (closeB R.length).length) (c := cap2) (w0 := w) (B' := w.heap.size) rfl (.tmp 14) (.tmp 17) rfl rfl ?_ ?_ ?_ rfl ?_ ?_ ?_ ?_ ?_ ?_ ?_; (first | rfl | fail); (first | exact (OB.below (B' := 0) HO1.out hb2) | fail); (first | rfl | fail); (first | exact (src_of_rd hrd2) | fail); (first | exact hn2 | fail); (first | exact HLen2.out | fail); (first | exact (HB1.out.trans (hb2.mono HB1.out.size)) | fail); (first | exact (Nat.le_trans HBs1.out hb2.size) | fail); (first | exact (Nat.le_succ _) | fail); intro v3 w3 ho3 hb3 hb3'))
  have hr3 : Blk w3 w.heap.size 25 (vbs Z32) := (HR1.out.below hb2 HR1.out.lt).below hb3' (by omega)
  obtain ⟨ALL, hALL⟩ : ∃ ALL, ALL = R ++ closeB R.length := ⟨_, rfl⟩
  rw [List.nil_append, ← hALL] at ho3
  obtain ⟨A3, cap3, rfl, hrd3, hl3, hm3, hn3⟩ := ho3.rd
  have H3 := Lib.hid (⟨hr3, hb3, hrd3, hl3, hm3⟩ : Blk w3 w.heap.size 25 (vbs Z32) ∧ Below w.heap.size w w3 ∧ Rd w3 w3.heap.size A3 ALL ∧ ALL.length ≤ cap3 ∧ cap3 ≤ 9223372036854775807)
  have HALL := Lib.hid hALL
  clear hr3 hb3 hrd3 hl3 hm3 hn3 ho3 hb3' hALL hb2 ho2 hl2 hm2 hn2 hrd2 HC HO1 HB1 HBs1 HLen2 HR1
  go_upto_region 6 with (first | (go_at_call 26; (with_reducible refine (rnums_any _).mono ?_); rintro e w4 ⟨rfl, hk4, hb4⟩; dsimp only) | (go_at_call 27; (with_reducible refine (first_any _).mono ?_); rintro e w5 ⟨rfl, hf5, hb5⟩; dsimp only))
  have hSQ : SQ w ALL A3 w3.heap.size w5 := by
    have h4 : SQ w ALL A3 w3.heap.size w4 := ⟨H3.out.2.1.trans (hb4.mono H3.out.2.1.size), rd_up (H3.out.2.2.1.keep hb4) hb4.size, hk4, H3.out.1.below hb4 H3.out.1.lt⟩
    exact h4.below hb5
  have hcap3 : ALL.length ≤ cap3 := H3.out.2.2.2.1
  have hm3 : cap3 ≤ 9223372036854775807 := H3.out.2.2.2.2
  have hcl : ∀ j, j < 8 → w5.cell? ⟨w4.heap.size, 0 + j, none⟩ = some (.int .u32 (U ((stl ini).getD j 0))) := fun j hj => by
    rw [Nat.zero_add]; exact hf5.cell (vus_at hj)
  have HQ0 := Lib.hid hSQ
  have HF0 := Lib.hid (⟨hf5.lt, hcl⟩ : w4.heap.size < w5.heap.size ∧ _)
  generalize w3.heap.size = kb at HQ0 ⊢
  generalize w4.heap.size = fb at HF0 ⊢
  clear hSQ hcl hf5 hk4 hb4 hb5 H3
  obtain ⟨m, hm⟩ : ∃ m, ALL.length = 64 * m := ⟨R.length / 64 + manyOf (R.length % 64), by rw [HALL.out]; exact all_len R⟩
  obtain ⟨F, hlen, HF0', HFs⟩ : ∃ F : Nat → St, Hid (sumR R = joinB (F m)) ∧ F 0 = ini ∧ Hid (∀ k, change (F k) ((ALL.drop (64 * k)).take 64) = F (k + 1)) := by
    refine ⟨blocks change ini ALL, ?_, rfl, fun k => rfl⟩
    show sumR R = _
    unfold sumR
    rw [← HALL.out, hm, Nat.mul_div_cancel_left _ (by omega : 0 < 64)]
  rw [← HF0'] at HF0
  clear HF0'
  have hbig : ALL.length < 2000000000 := by
    rw [HALL.out, List.length_append, close_len]; have := nz_lt R.length; omega
  obtain ⟨L, hL⟩ : ∃ L, L = ALL.length := ⟨_, rfl⟩
  rw [← hL] at hm hcap3 hbig ⊢
  have HLL := Lib.hid hL
  clear hL hl hcap HBs
  go_wp2_with fail
  go_loopw [5, 6] (fun vs i wq => ∃ (k sb so c8 : Nat), k ≤ m ∧ i = .int .i64 ((64 * k : Nat) : Int) ∧ vs = .slice (some ⟨sb, so, none⟩) 8 c8 ∧ 8 ≤ c8 ∧ c8 ≤ 9223372036854775807 ∧ sb < wq.heap.size ∧ (∀ j, j < 8 → wq.cell? ⟨sb, so + j, none⟩ = some (.int .u32 (U ((stl (F k)).getD j 0)))) ∧ SQ w ALL A3 kb wq) (fun _ i _ => L - (intOf i).toNat)
  case atStart => exact ⟨0, fb, 0, 8, Nat.zero_le _, rfl, rfl, Nat.le_refl _, by omega, HF0.out.1, HF0.out.2, HQ0.out⟩
  case round =>
    obtain ⟨k, sb, so, c8, hk, rfl, rfl, hc8, hcm8, hsb, hsc, hX⟩ := hrel
    have HX := Lib.hid hX
    have HSC := Lib.hid hsc
    clear hX hsc HQ0 HF0
    by_cases hlt : k < m
    · have k1 : ((64 * k : Nat) : Int) < (L : Int) := by omega
      obtain ⟨b3, o3, rfl, hb3lt, hb3c⟩ := HX.out.rd (by rw [← HLL.out]; omega)
      have hC : ((ALL.drop (64 * k)).take 64).length = 64 := by rw [List.length_take, List.length_drop, ← HLL.out]; omega
      have hrdC : Rd wr wr.heap.size (some ⟨b3, o3 + 64 * k, none⟩) ((ALL.drop (64 * k)).take 64) := fun _ =>
        ⟨b3, o3 + 64 * k, rfl, hb3lt, fun j hj => by
          rw [hC] at hj
          rw [Nat.add_assoc, hb3c (64 * k + j) (by rw [← HLL.out]; omega)]
          simp [List.getD, List.getElem?_take, hj]⟩
      have hkc : ∀ j, j < 64 → wr.cell? ⟨kb, 0 + j, none⟩ = some (.int .u32 (U (KK.getD j 0))) := fun j hj => by
        rw [Nat.zero_add]; exact HX.out.k.cell (vus_at hj)
      have hch := rchange_walk ((ALL.drop (64 * k)).take 64) hC (F k) sb so c8 (some ⟨b3, o3 + 64 * k, none⟩) (cap3 - 64 * k) kb 0 64 wr hsb hc8 hcm8 HSC.out hrdC HX.out.k.lt hkc
      rw [← change_eq, HFs.out k] at hch
      have HCH := Lib.hid hch
      obtain ⟨i64, hi64⟩ : ∃ i64, i64 = 64 * k := ⟨_, rfl⟩
      have HI := Lib.hid hi64
      rw [← hi64] at HCH k1 ⊢
      have k2 : IntKind.i64.wrap ((i64 : Int) + 64) = (i64 : Int) + 64 := IntWalk.i64_in _ (by omega)
      have k3 : (0 : Int) ≤ (i64 : Int) := by omega
      have k4 : (i64 : Int) ≤ (i64 : Int) + 64 := by omega
      have k5 : (i64 : Int) + 64 ≤ (cap3 : Int) := by omega
      have k6 : ¬ cap3 = i64 := by omega
      have k7 : ((i64 : Int) + 64).toNat = i64 + 64 := by omega
      have k8 : i64 + 64 - i64 = 64 := by omega
      clear hch hkc hrdC hC hb3c hi64
      go_upto_region 8 with (go_at_call 28; (with_reducible refine HCH.out.mono ?_); rintro e w7 ⟨v7, rfl, ho7, hb7⟩; dsimp only)
      obtain ⟨g7, c7, rfl, _, hg7l, hc7, hm7, hcells7⟩ := ho7.eight rfl
      have H7 : Hid (∀ j, j < 8 → w7.cell? ⟨g7, 0 + j, none⟩ = some (.int .u32 (U ((stl (F (k + 1))).getD j 0)))) := hcells7
      have HX7 := Lib.hid (HX.out.below hb7)
      have k9 : IntKind.i64.wrap ((i64 : Int) + 64) = (i64 : Int) + 64 := k2
      clear hcells7 ho7 hb7 HSC HX HCH k6 k7 k8
      go_wp2_with fail
      go_roundw
      case rel => exact ⟨k + 1, g7, 0, c7, by omega, by congr 1; have := HI.out; omega, rfl, hc7, hm7, hg7l, H7.out, HX7.out⟩
      case measure => simp [intOf]; omega
    · obtain rfl : k = m := by omega
      have k1 : ¬ ((64 * k : Nat) : Int) < (L : Int) := by omega
      obtain ⟨i64, hi64⟩ : ∃ i64, i64 = 64 * k := ⟨_, rfl⟩
      rw [← hi64] at k1 ⊢
      clear hi64
      obtain ⟨S, hS⟩ : ∃ S, S = F k := ⟨_, rfl⟩
      have HSd := Lib.hid hS
      rw [← hS] at HSC
      clear hS
      generalize wr = W at HX HSC hsb ⊢
      have hz : ∀ w, (zeroValue 25).run Tryd.prog w = .ok (.agg (vbs Z32).toArray) w := fun _ => by kernel_rfl
      have HH0 := Lib.hid (show Below W.heap.size W (W.alloc (Obj.cells (vbs Z32).toArray 25)) ∧ Blk (W.alloc (Obj.cells (vbs Z32).toArray 25)) W.heap.size 25 (vbs (jb S 0)) from ⟨(Below.refl _ _).alloc (Nat.le_refl _) _, by
        have := Blk.new W 25 (vbs Z32).toArray
        rwa [List.toList_toArray, ← jb_zero S] at this⟩)
      go_upto_region 11 with fail
      generalize W.alloc (Obj.cells (vbs Z32).toArray 25) = w8 at HH0 ⊢
      clear hz
      go_wp2_with fail
      go_loopw [8] (fun i wq => ∃ j : Nat, j ≤ 32 ∧ i = .int .i64 j ∧ Below W.heap.size W wq ∧ Blk wq W.heap.size 25 (vbs (jb S j))) (fun i _ => 32 - (intOf i).toNat)
      case atStart => exact ⟨0, Nat.zero_le _, rfl, HH0.out⟩
      case round =>
        obtain ⟨j, hj, rfl, hb9, hB9⟩ := hrel
        clear HH0
        have HB9 := Lib.hid hb9
        have HK9 := Lib.hid hB9
        by_cases hj32 : j < 32
        · have j1 : (j : Int) < 32 := by omega
          have cl : wr.cell? ⟨sb, so + j / 4, none⟩ = some (.int .u32 (U (letter S (j / 4)))) := by
            rw [hb9.cell (p := ⟨sb, so + j / 4, none⟩) hsb, HSC.out (j / 4) (by omega), stl_letter S _ (by omega)]
          have q1 : IntKind.i64.wrap ((j : Int).tdiv 4) = ((j / 4 : Nat) : Int) := by rw [Int.tdiv_eq_ediv_of_nonneg (by omega), IntWalk.i64_in _ (by omega)]; omega
          have q2 : IntKind.i64.wrap ((j : Int).tmod 4) = ((j % 4 : Nat) : Int) := by rw [Int.tmod_eq_emod_of_nonneg (by omega), IntWalk.i64_in _ (by omega)]; omega
          have q2' : (j : Int).tmod 4 = ((j % 4 : Nat) : Int) := by rw [Int.tmod_eq_emod_of_nonneg (by omega)]; omega
          have q3 : (0 : Int) ≤ ((j / 4 : Nat) : Int) := by omega
          have q4 : ((j / 4 : Nat) : Int) < 8 := by omega
          have c9 := hB9.cell (vbs_at (l := jb S j) (j := j) (by rw [jb_len]; omega))
          have f9 := hB9.free j
          obtain ⟨x, hx⟩ : ∃ x, x = letter S (j / 4) := ⟨_, rfl⟩
          obtain ⟨jd, hjd⟩ : ∃ jd, jd = j / 4 := ⟨_, rfl⟩
          obtain ⟨jm, hjm⟩ : ∃ jm, jm = j % 4 := ⟨_, rfl⟩
          have HXl := Lib.hid (show x = letter S (j / 4) ∧ jm = j % 4 from ⟨hx, hjm⟩)
          have hjm4 : jm < 4 := by omega
          rw [← hx] at cl
          rw [← hjd] at cl q1 q3 q4
          rw [← hjm] at q2 q2'
          clear hx hjd hjm hb9 hB9
          have q5 : (j : Int).tdiv 4 = (jd : Int) := by rw [← q1, IntWalk.i64_in _ (by have := Int.tdiv_le_self (a := (j : Int)) 4 (by omega); have := Int.tdiv_nonneg (a := (j : Int)) (b := 4) (by omega) (by omega); omega)]
          go_wp2_with fail
          go_loopw [9, 10] (fun v n wq => ∃ t : Nat, jm + t ≤ 3 ∧ n = .int .i64 ((jm + t : Nat) : Int) ∧ v = .int .u32 (U (x >>> (8 * t))) ∧ wq = wr) (fun _ n _ => 3 - (intOf n).toNat)
          case atStart => exact ⟨0, by omega, rfl, by simp, rfl⟩
          case round =>
            obtain ⟨t, ht, rfl, rfl, rfl⟩ := hrel
            by_cases ht3 : jm + t < 3
            · have t1 : ((jm + t : Nat) : Int) < 3 := by omega
              have t2 := U_div256 (x >>> (8 * t))
              rw [← BitVec.shiftRight_add] at t2
              have t3 : IntKind.i64.wrap (((jm + t : Nat) : Int) + 1) = ((jm + (t + 1) : Nat) : Int) := by rw [IntWalk.i64_in _ (by omega)]; omega
              obtain ⟨n, hn⟩ : ∃ n, n = jm + t := ⟨_, rfl⟩
              rw [← hn] at t1 t3 ⊢
              have HN := Lib.hid hn
              clear hn
              go_wp2_with fail
              go_roundw
              case rel => exact ⟨t + 1, by omega, by first | rfl | (congr 1; have := HN.out; omega), by rw [show 8 * (t + 1) = 8 * t + 8 by omega], by first | rfl | trivial⟩
              case measure => have h9 := HN.out; simp [intOf]; omega
            · have t1 : ¬ ((jm + t : Nat) : Int) < 3 := by omega
              have t2 := U_byte (x >>> (8 * t))
              have t2' := U_byte' (x >>> (8 * t))
              have HTm := Lib.hid (show jm + t = 3 by omega)
              obtain ⟨n, hn⟩ : ∃ n, n = jm + t := ⟨_, rfl⟩
              rw [← hn] at t1 ⊢
              clear hn
              go_wp2_with fail
              go_roundw
              case rel =>
                refine ⟨j + 1, by omega, by simp, HB9.out.setCell (Nat.le_refl _) _, ?_⟩
                have h1 := HK9.out.set j (.int .u8 (Bt (byteOf S j)))
                rw [vbs_set, jb_step S j hj32] at h1
                have e : byteOf S j = (x >>> (8 * t)).setWidth 8 := by
                  unfold byteOf
                  have h1 := HXl.out
                  have h2 := HTm.out
                  rw [← h1.1, ← h1.2, show 24 - 8 * jm = 8 * t by omega]
                rw [e] at h1
                exact h1
              case measure => simp [intOf]; omega
        · obtain rfl : j = 32 := by omega
          have HIf := Lib.hid (i25 (vs := vbs (jb S 32)) (by rw [vbs_len, jb_len]))
          have HRg := Lib.hid hB9.range
          have hr9 : Blk wr w.heap.size 25 (vbs Z32) := HX.out.r.below hb9 HX.out.r.lt
          have HTh : Hid (wr.there w.heap.size 0 (vbs (jb S 32)).toArray.size) := there_z hr9 (jb_len _ _)
          have hbw : Below w.heap.size w wr := HX.out.bel.trans (hb9.mono HX.out.bel.size)
          have HR9 := Lib.hid hr9
          have HBW := Lib.hid hbw
          clear hb9 hB9 hr9 hbw
          go_wp2_with (first | (with_reducible refine wpList_load_mid rfl 25 (.tmp 7) rfl W.heap.size 0 rfl (vbs (jb S 32)) _ HRg.out Tryd.underlying25 rfl HIf.out ?_) | (with_reducible refine wpList_store_mid rfl 25 (.tmp 2) (.tmp 57) rfl w.heap.size 0 (vbs (jb S 32)).toArray rfl rfl HTh.out (info_arr HIf.out) (all_oneCell_toArray (vbs_one _)) ?_))
          have hSs := HR9.out.setCells (vbs (jb S 32)) (by rw [vbs_len, jb_len, vbs_len, Z32_len])
          have hSb := below_setCells (Nat.le_refl w.heap.size) (vbs (jb S 32)) 0 wr HBW.out
          generalize wr.setCells w.heap.size 0 (vbs (jb S 32)) = W8 at hSs hSb
          have e : sumR R = jb S 32 := by rw [hlen.out, jb_end, HSd.out]
          exact bodyPost_ret (v := .agg (vbs (jb S 32)).toArray) (results_cell_row Tryd.results13 _ W8 w.heap.size 25 (vbs (jb S 32)).toArray (0, 0) _ rfl hSs Tryd.underlying25 rfl (info_arr HIf.out)) rfl ⟨by rw [e], hSb⟩
end Go.Proofs.YtjbjkddgefiicaaDoor
