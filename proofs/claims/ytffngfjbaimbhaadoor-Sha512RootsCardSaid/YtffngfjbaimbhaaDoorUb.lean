/- What the document's own times of long numbers returns: the digits of the product. -/
import Derived.Test.YtffngfjbaimbhaaDoorUa
import Derived.Outline
namespace Go.Proofs.YtffngfjbaimbhaaDoor
open Go.RowKit
set_option linter.unusedVariables false
set_option linter.unusedSimpArgs false
set_option maxRecDepth 100000
def vqs (l : List Nat) : List Value := l.map fun (x : Nat) => Value.int .u64 ((x : Nat) : Int)
theorem vqs_at {l : List Nat} {j : Nat} (h : j < l.length) : (vqs l)[j]? = some (.int .u64 ((l.getD j 0 : Nat) : Int)) := by
  unfold vqs; simp [h]
theorem vqs_len (l : List Nat) : (vqs l).length = l.length := by simp [vqs]
theorem vqs_set (l : List Nat) (j : Nat) (x : Nat) : (vqs l).set j (.int .u64 (x : Int)) = vqs (l.set j x) := by
  unfold vqs; rw [List.map_set]
/-- The slice with address A reads as the digits M, and lies below block B. -/
def RdQ (w : World) (B : Nat) (A : Option Addr) (M : List Nat) : Prop :=
  0 < M.length → ∃ b o, A = some ⟨b, o, none⟩ ∧ b < B ∧ ∀ j, j < M.length → w.cell? ⟨b, o + j, none⟩ = some (.int .u64 ((M.getD j 0 : Nat) : Int))
theorem RdQ.up {w w' : World} {B : Nat} {A : Option Addr} {M : List Nat} (h : RdQ w B A M) (hb : Below B w w') (hB : B ≤ w'.heap.size) : RdQ w' w'.heap.size A M := fun hp => by
  obtain ⟨b, o, e, hlt, hc⟩ := h hp
  exact ⟨b, o, e, Nat.lt_of_lt_of_le hlt hB, fun j hj => by rw [hb.cell (p := ⟨b, o + j, none⟩) hlt]; exact hc j hj⟩
/-- The value v is a slice that reads as the digits X. -/
def Num (w : World) (v : Value) (X : List Nat) : Prop := ∃ A c, v = .slice A X.length c ∧ RdQ w w.heap.size A X ∧ Dig X
theorem Num.below {w w' : World} {v : Value} {X : List Nat} (h : Num w v X) (hb : Below w.heap.size w w') : Num w' v X := by
  obtain ⟨A, c, e, hr, hd⟩ := h
  exact ⟨A, c, e, hr.up hb hb.size, hd⟩
theorem madeQ (w : World) (n : Nat) (hn : n < 1000000) : (Instr.makeSlice 33 (.int .i64 n) (.int .i64 n)).run Tryd.prog w = .ok (.slice (some ⟨w.heap.size, 0, none⟩) n n) (w.alloc (.cells (vqs (List.replicate n 0)).toArray 37)) := by
  obtain ⟨i0, hi, hz0, hz1, hz2⟩ := info_parts info37
  have h := run_make (P := Tryd.prog) w 33 37 i0 (.int .u64 0) Tryd.underlying33 hi hz0 .i64 .i64 n n (by omega) (Int.le_refl _) (by rw [hz2]; omega) (by omega)
  simp only [Int.toNat_natCast, hz1, Nat.mul_one] at h
  rw [h]
  congr 3
  apply Array.toList_inj.1
  rw [show (Value.int .u64 0).cells = #[Value.int .u64 0] from rfl, toList_madeCells_one]
  simp [vqs]
theorem row_sum (V x a y i k : Nat) : V + x * a * 65536 ^ i + x * y * 65536 ^ (i + k) = V + x * (a + 65536 ^ k * y) * 65536 ^ i := by
  rw [Nat.pow_add, Nat.mul_add, Nat.add_mul]
  have : x * y * (65536 ^ i * 65536 ^ k) = x * (65536 ^ k * y) * 65536 ^ i := by ac_rfl
  omega
theorem below_dN {B : Nat} {w w' : World} (h : Below B w w') (k : Nat) : Below B w (w'.drewN k) := ⟨h.os, h.tape, h.output, h.size, h.block⟩
structure TO (w : World) (ob n lb : Nat) (O : List Nat) (V i : Nat) (wq : World) : Prop where
  bel : Below w.heap.size w wq
  blk : Blk wq ob 37 (vqs O)
  len : O.length = n
  dig : Dig O
  v : val O = V
  hi : ∀ j, i + lb ≤ j → O.getD j 0 = 0
structure TI (w : World) (ob n lb : Nat) (O : List Nat) (V c i k : Nat) (wq : World) : Prop where
  bel : Below w.heap.size w wq
  blk : Blk wq ob 37 (vqs O)
  len : O.length = n
  dig : Dig O
  v : val O + c * 65536 ^ (i + k) = V
  cl : c < 65536
  hi : ∀ j, i + lb ≤ j → O.getD j 0 = 0
set_option maxHeartbeats 4000000 in
theorem times_loop (X Y : List Nat) (hX : Dig X) (hY : Dig Y) (A B : Option Addr) (c c2 la lb : Nat) (w : World) (ha : la = X.length) (hb : lb = Y.length) (hRX : RdQ w w.heap.size A X) (hRY : RdQ w w.heap.size B Y) (hl : la < 1000) (hl2 : lb < 1000) :
    Calls Tryd.prog 28 #[.slice A la c, .slice B lb c2] w fun e w' => ∃ O, e = .returned (.slice (some ⟨w.heap.size, 0, none⟩) (la + lb) (la + lb)) ∧ Blk w' w.heap.size 37 (vqs O) ∧ O.length = la + lb ∧ Dig O ∧ val O = val X * val Y ∧ Below w.heap.size w w' := by
  obtain ⟨n, hn⟩ : ∃ n, n = la + lb := ⟨_, rfl⟩
  rw [← hn]
  have hm : (Instr.makeSlice 33 (.int .i64 ((la : Int) + (lb : Int))) (.int .i64 ((la : Int) + (lb : Int)))).run Tryd.prog w = .ok (.slice (some ⟨w.heap.size, 0, none⟩) n n) (w.alloc (.cells (vqs (List.replicate n 0)).toArray 37)) := by
    rw [show (la : Int) + (lb : Int) = ((n : Nat) : Int) by omega]; exact madeQ w n (by omega)
  have hm0 := madeQ w n (by omega)
  have e1 : IntKind.i64.wrap ((la : Int) + (lb : Int)) = ((n : Nat) : Int) := by rw [IntWalk.i64_in _ (by omega)]; omega
  have H0 : Hid (TO w w.heap.size n lb (List.replicate n 0) (val (X.take 0) * val Y) 0 (w.alloc (.cells (vqs (List.replicate n 0)).toArray 37))) := ⟨(Below.refl _ _).alloc (Nat.le_refl _) _, by
    have := Blk.new w 37 (vqs (List.replicate n 0)).toArray
    rwa [List.toList_toArray] at this, List.length_replicate, fun d hd => by rw [List.eq_of_mem_replicate hd]; omega, by rw [val_zeros]; simp [val], fun j _ => by
      by_cases h : j < n
      · simp [List.getD, h]
      · simp [List.getD, h]⟩
  have HX := Lib.hid hRX
  have HY := Lib.hid hRY
  have HDX := Lib.hid hX
  have HDY := Lib.hid hY
  have Hla := Lib.hid ha
  have Hlb := Lib.hid hb
  have HN := Lib.hid hn
  clear hRX hRY hX hY ha hb hn
  go_enter Tryd.func28, Tryd.ntmps28
  go_upto_region 2 with fail
  generalize w.alloc (.cells (vqs (List.replicate n 0)).toArray 37) = w1 at H0 ⊢
  obtain ⟨ob, hob⟩ : ∃ ob, ob = w.heap.size := ⟨_, rfl⟩
  have Hob := Lib.hid hob
  rw [← hob] at H0 ⊢
  clear hob hm hm0 e1
  go_wp2_with fail
  go_loopw [6] (fun iv wq => ∃ (i : Nat) (O : List Nat), i ≤ la ∧ iv = .int .i64 (i : Int) ∧ TO w ob n lb O (val (X.take i) * val Y) i wq) (fun iv _ => la - (intOf iv).toNat)
  case atStart => exact ⟨0, _, Nat.zero_le _, rfl, H0.out⟩
  case round =>
    obtain ⟨i, O0, hi, rfl, hT⟩ := hrel
    have HT0 := Lib.hid hT
    clear H0 hT
    by_cases hil : i < la
    · have i1 : (i : Int) < (la : Int) := by omega
      obtain ⟨xb, xo, rfl, hxlt, hxc⟩ := HX.out (by rw [← Hla.out]; omega)
      obtain ⟨x, hx⟩ : ∃ x, x = X.getD i 0 := ⟨_, rfl⟩
      have hx9 : x < 65536 := by rw [hx]; exact HDX.out.at i
      have hxw : ∀ wq, Below w.heap.size w wq → wq.cell? ⟨xb, xo + i, none⟩ = some (.int .u64 ((x : Nat) : Int)) := fun wq hq => by
        rw [hq.cell (p := ⟨xb, xo + i, none⟩) hxlt, hx]; exact hxc i (by rw [← Hla.out]; exact hil)
      have HXc := Lib.hid hxw
      have Hx := Lib.hid hx
      clear hx hxw hxc hxlt
      go_wp2_with fail
      go_loopw [7, 8] (fun cv kv wq => ∃ (k c : Nat) (O : List Nat), k ≤ lb ∧ kv = .int .i64 (k : Int) ∧ cv = .int .u64 (c : Int) ∧ TI w ob n lb O (val (X.take i) * val Y + x * val (Y.take k) * 65536 ^ i) c i k wq) (fun _ kv _ => lb - (intOf kv).toNat)
      case atStart =>
        obtain ⟨h1, h2, h3, h4, h5, h6⟩ := HT0.out
        exact ⟨0, 0, O0, Nat.zero_le _, rfl, rfl, h1, h2, h3, h4, by rw [h5]; simp [val], by omega, h6⟩
      case round =>
        obtain ⟨k, c, O, hk, rfl, rfl, hT⟩ := hrel
        clear HT0
        obtain ⟨p, hp⟩ : ∃ p, p = i + k := ⟨_, rfl⟩
        have hc9 : c < 65536 := hT.cl
        by_cases hkl : k < lb
        · have k1 : (k : Int) < (lb : Int) := by omega
          obtain ⟨yb, yo, rfl, hylt, hyc⟩ := HY.out (by rw [← Hlb.out]; omega)
          obtain ⟨y, hy⟩ : ∃ y, y = Y.getD k 0 := ⟨_, rfl⟩
          have hy9 : y < 65536 := by rw [hy]; exact HDY.out.at k
          obtain ⟨o, ho⟩ : ∃ o, o = O.getD p 0 := ⟨_, rfl⟩
          have ho9 : o < 65536 := by rw [ho]; exact hT.dig.at p
          have hpn : p < n := by have := HN.out; omega
          have cy : wr.cell? ⟨yb, yo + k, none⟩ = some (.int .u64 ((y : Nat) : Int)) := by
            rw [hT.bel.cell (p := ⟨yb, yo + k, none⟩) hylt, hy]; exact hyc k (by rw [← Hlb.out]; exact hkl)
          have cx := HXc.out wr hT.bel
          have co : wr.cell? ⟨ob, p, none⟩ = some (.int .u64 ((o : Nat) : Int)) := by rw [ho]; exact hT.blk.cell (vqs_at (by rw [hT.len]; exact hpn))
          have fo := hT.blk.free p
          obtain ⟨xy, hxy⟩ : ∃ m, m = x * y := ⟨_, rfl⟩
          obtain ⟨o1, ho1⟩ : ∃ m, m = o + xy := ⟨_, rfl⟩
          obtain ⟨s, hs⟩ : ∃ m, m = o1 + c := ⟨_, rfl⟩
          obtain ⟨r, hr⟩ : ∃ m, m = s % 65536 := ⟨_, rfl⟩
          obtain ⟨d, hd⟩ : ∃ m, m = s / 65536 := ⟨_, rfl⟩
          have hbd : s < 4294967296 := by rw [hs, ho1, hxy]; exact row_bound o x y c ho9 hx9 hy9 hc9
          have q1 : IntKind.i64.wrap ((i : Int) + (k : Int)) = (p : Int) := by rw [IntWalk.i64_in _ (by omega)]; omega
          have q2 : (i : Int) + (k : Int) = (p : Int) := by omega
          have q3 : (x : Int) * (y : Int) = (xy : Int) := by rw [hxy]; simp
          have q4 : IntKind.u64.wrap (xy : Int) = (xy : Int) := by rw [IntKind.wrap_u64]; omega
          have q5 : (o : Int) + (xy : Int) = (o1 : Int) := by omega
          have q6 : IntKind.u64.wrap (o1 : Int) = (o1 : Int) := by rw [IntKind.wrap_u64]; omega
          have q7 : (o1 : Int) + (c : Int) = (s : Int) := by omega
          have q8 : IntKind.u64.wrap (s : Int) = (s : Int) := by rw [IntKind.wrap_u64]; omega
          have r1 : (s : Int).tmod 65536 = (r : Int) := by rw [Int.tmod_eq_emod_of_nonneg (Int.natCast_nonneg _)]; omega
          have r2 : (s : Int) % 65536 = (r : Int) := by omega
          have r3 : (s : Int).tdiv 65536 = (d : Int) := by rw [Int.tdiv_eq_ediv_of_nonneg (Int.natCast_nonneg _)]; omega
          have r4 : (s : Int) / 65536 = (d : Int) := by omega
          have p0 : (0 : Int) ≤ (p : Int) := by omega
          have p1 : (p : Int) < (n : Int) := by omega
          have hr9 : r < 65536 := by omega
          have hd9 : d < 65536 := by omega
          have HA := Lib.hid (⟨hy, ho, by rw [hr, hs, ho1, hxy], by rw [hd, hs, ho1, hxy], hp⟩ : y = Y.getD k 0 ∧ o = O.getD p 0 ∧ r = (o + x * y + c) % 65536 ∧ d = (o + x * y + c) / 65536 ∧ p = i + k)
          have HTq := Lib.hid hT
          clear hy ho hxy ho1 hs hr hd hp hylt hyc hT
          go_upto_region 9 with fail
          go_quiet (fail)
          clear q1 q3 q4 q5 q6 q7 q8
          go_wp2_with fail
          go_roundw
          case rel =>
            obtain ⟨a1, a2, a3, a4, a5⟩ := HA.out
            obtain ⟨h1, h2, h3, h4, h5, h6, h7⟩ := HTq.out
            have hst := row_step O Y i k x c (by rw [h3, ← a5]; exact hpn) h4 HDY.out hx9 h6
            rw [← a5, ← a1, ← a2, ← a3, ← a4] at hst
            refine ⟨k + 1, d, O.set p r, by omega, by go_num, rfl, ?_, ?_, by rw [List.length_set]; exact h3, h4.set p r hr9, ?_, hd9, fun j hj => ?_⟩
            · refine Below.setCell (below_dN h1 _) ?_ _
              show w.heap.size ≤ ob
              rw [Hob.out]
              exact Nat.le_refl _
            · have := Blk.set (show Blk (wr.drewN nq) ob 37 (vqs O) from h2) p (.int .u64 ((r : Nat) : Int)); rwa [vqs_set] at this
            · rw [hst, val_take_succ, ← row_sum, ← a1, ← a5]
              rw [← a5] at h5
              omega
            · rw [getD_ne _ _ _ _ (by omega)]; exact h7 j hj
          case measure => simp [intOf]; omega
        · obtain rfl : k = lb := by omega
          have k1 : ¬ (k : Int) < (k : Int) := by omega
          obtain ⟨o, ho⟩ : ∃ o, o = O.getD p 0 := ⟨_, rfl⟩
          have ho0 : o = 0 := by rw [ho]; exact hT.hi p (by omega)
          have hpn : p < n := by have := HN.out; omega
          have co : wr.cell? ⟨ob, p, none⟩ = some (.int .u64 ((o : Nat) : Int)) := by rw [ho]; exact hT.blk.cell (vqs_at (by rw [hT.len]; exact hpn))
          have fo := hT.blk.free p
          obtain ⟨t, ht⟩ : ∃ m, m = o + c := ⟨_, rfl⟩
          have q1 : IntKind.i64.wrap ((i : Int) + (k : Int)) = (p : Int) := by rw [IntWalk.i64_in _ (by omega)]; omega
          have q2 : (i : Int) + (k : Int) = (p : Int) := by omega
          have q5 : (o : Int) + (c : Int) = (t : Int) := by omega
          have q6 : IntKind.u64.wrap (t : Int) = (t : Int) := by rw [IntKind.wrap_u64]; omega
          have p0 : (0 : Int) ≤ (p : Int) := by omega
          have p1 : (p : Int) < (n : Int) := by omega
          have ht9 : t < 65536 := by omega
          have HA := Lib.hid (⟨ho, by omega, hp⟩ : o = O.getD p 0 ∧ t = c ∧ p = i + k)
          have HTq := Lib.hid hT
          have Ho0 := Lib.hid ho0
          clear ho ho0 ht hp hT
          go_wp2_with fail
          go_roundw
          case rel =>
            obtain ⟨a1, a2, a3⟩ := HA.out
            obtain ⟨h1, h2, h3, h4, h5, h6, h7⟩ := HTq.out
            have hv := val_put O p t (by rw [h3]; exact hpn)
            rw [← a1, Ho0.out, Nat.zero_mul, Nat.add_zero] at hv
            refine ⟨i + 1, O.set p t, by omega, by go_num, ?_, ?_, by rw [List.length_set]; exact h3, h4.set p t ht9, ?_, fun j hj => ?_⟩
            · refine Below.setCell h1 ?_ _
              show w.heap.size ≤ ob
              rw [Hob.out]
              exact Nat.le_refl _
            · have := Blk.set h2 p (.int .u64 ((t : Nat) : Int)); rwa [vqs_set] at this
            · rw [hv, val_take_succ, Nat.add_mul, a2]
              rw [← a3, show List.take k Y = Y from List.take_of_length_le (by rw [Hlb.out]; exact Nat.le_refl _)] at h5
              have e : 65536 ^ i * X.getD i 0 * val Y = x * val Y * 65536 ^ i := by rw [← Hx.out]; ac_rfl
              rw [e]
              exact h5
            · rw [getD_ne _ _ _ _ (by omega)]; exact h7 j (by omega)
          case measure => simp [intOf]; omega
    · obtain rfl : i = la := by omega
      have i1 : ¬ (i : Int) < (i : Int) := by omega
      go_wp2_with fail
      go_ret
      obtain ⟨h1, h2, h3, h4, h5, h6⟩ := HT0.out
      exact ⟨by rw [Hob.out]; rfl, O0, by rw [← Hob.out]; exact h2, h3, h4, by rw [h5, List.take_of_length_le (by rw [Hla.out]; exact Nat.le_refl _)], h1⟩
/-- What times tells. -/
def NumPost (n m : Nat) (w : World) (e : Ending) (w' : World) : Prop :=
  ∃ v L, e = .returned v ∧ Num w' v L ∧ val L = n ∧ L.length = m ∧ Below w.heap.size w w'
theorem times_p (X Y : List Nat) (v u : Value) (w : World) (hv : Num w v X) (hu : Num w u Y) (a b la lb : Nat) (ha : val X = a) (hb : val Y = b) (hl : X.length = la) (hl2 : Y.length = lb) (h1 : la < 500) (h2 : lb < 500) :
    Calls Tryd.prog 28 #[v, u] w (NumPost (a * b) (la + lb) w) := by
  obtain ⟨A, c, rfl, hr, hd⟩ := hv
  obtain ⟨B, c2, rfl, hr2, hd2⟩ := hu
  exact (times_loop X Y hd hd2 A B c c2 X.length Y.length w rfl rfl hr hr2 (by omega) (by omega)).mono fun e w' ⟨O, he, hB, hlen, hdo, hval, hbl⟩ =>
    ⟨_, O, he, ⟨some ⟨w.heap.size, 0, none⟩, _, by rw [hlen], fun hp => ⟨w.heap.size, 0, rfl, hB.lt, fun j hj => by rw [Nat.zero_add]; exact hB.cell (vqs_at hj)⟩, hdo⟩, by rw [hval, ha, hb], by omega, hbl⟩
end Go.Proofs.YtffngfjbaimbhaaDoor
