/- What sha512.processed returns: eight words behind a block. -/
import Derived.Test.YtffngfjbaimbhaaDoorSc
import Derived.Outline
namespace Go.Proofs.YtffngfjbaimbhaaDoor
open Go.RowKit
set_option linter.unusedVariables false
set_option linter.unusedSimpArgs false
def KK : List (BitVec 64) := [4794697086780616226, 8158064640168781261, 13096744586834688815, 16840607885511220156, 4131703408338449720, 6480981068601479193, 10538285296894168987, 12329834152419229976, 15566598209576043074, 1334009975649890238, 2608012711638119052, 6128411473006802146, 8268148722764581231, 9286055187155687089, 11230858885718282805, 13951009754708518548, 16472876342353939154, 17275323862435702243, 1135362057144423861, 2597628984639134821, 3308224258029322869, 5365058923640841347, 6679025012923562964, 8573033837759648693, 10970295158949994411, 12119686244451234320, 12683024718118986047, 13788192230050041572, 14330467153632333762, 15395433587784984357, 489312712824947311, 1452737877330783856, 2861767655752347644, 3322285676063803686, 5560940570517711597, 5996557281743188959, 7280758554555802590, 8532644243296465576, 9350256976987008742, 10552545826968843579, 11727347734174303076, 12113106623233404929, 14000437183269869457, 14369950271660146224, 15101387698204529176, 15463397548674623760, 17586052441742319658, 1182934255886127544, 1847814050463011016, 2177327727835720531, 2830643537854262169, 3796741975233480872, 4115178125766777443, 5681478168544905931, 6601373596472566643, 7507060721942968483, 8399075790359081724, 8693463985226723168, 9568029438360202098, 10144078919501101548, 10430055236837252648, 11840083180663258601, 13761210420658862357, 14299343276471374635, 14566680578165727644, 15097957966210449927, 16922976911328602910, 17689382322260857208, 500013540394364858, 748580250866718886, 1242879168328830382, 1977374033974150939, 2944078676154940804, 3659926193048069267, 4368137639120453308, 4836135668995329356, 5532061633213252278, 6448918945643986474, 6902733635092675308, 7801388544844847127]
structure St where
  a : BitVec 64
  b : BitVec 64
  c : BitVec 64
  d : BitVec 64
  e : BitVec 64
  f : BitVec 64
  g : BitVec 64
  h : BitVec 64
def ini : St := ⟨7640891576956012808, 13503953896175478587, 4354685564936845355, 11912009170470909681, 5840696475078001361, 11170449401992604703, 2270897969802886507, 6620516959819538809⟩
def stl (s : St) : List (BitVec 64) := [s.a, s.b, s.c, s.d, s.e, s.f, s.g, s.h]
def stv (s : St) : Array Value := #[.int .u64 (V s.a), .int .u64 (V s.b), .int .u64 (V s.c), .int .u64 (V s.d), .int .u64 (V s.e), .int .u64 (V s.f), .int .u64 (V s.g), .int .u64 (V s.h)]
theorem stv_one (s : St) : (stv s).all (·.oneCell') = true := by simp [stv, Value.oneCell']
def rnd (s : St) (k x : BitVec 64) : St :=
  let t1 := s.h + up1 s.e + (s.e &&& s.f ^^^ ~~~s.e &&& s.g) + k + x
  ⟨t1 + (up0 s.a + (s.a &&& s.b ^^^ s.a &&& s.c ^^^ s.b &&& s.c)), s.a, s.b, s.c, s.d + t1, s.e, s.f, s.g⟩
def rounds (s : St) (X : List (BitVec 64)) : Nat → St
  | 0 => s
  | n + 1 => rnd (rounds s X n) (KK.getD n 0) (X.getD n 0)
def addS (s t : St) : St := ⟨s.a + t.a, s.b + t.b, s.c + t.c, s.d + t.d, s.e + t.e, s.f + t.f, s.g + t.g, s.h + t.h⟩
def proc (s : St) (C : List (BitVec 8)) : St := addS s (rounds s (sch C 80) 80)
/-- The two tables lie as the program's text lays them. -/
structure Glob (w : World) : Prop where
  i : w.rangeAt 0 0 (stv ini).toList
  k : ∀ i, i < 80 → w.cell? ⟨1, i, none⟩ = some (.int .u64 (V (KK.getD i 0)))
theorem Glob.lt1 {w : World} (h : Glob w) : 1 < w.heap.size := World.block_lt_of_cell? w _ (h.k 0 (by omega))
theorem Glob.below {w w' : World} (h : Glob w) (hb : Below w.heap.size w w') : Glob w' :=
  ⟨fun j v hv => by rw [hb.cell (p := ⟨0, 0 + j, none⟩) (by have := h.lt1; show 0 < _; omega)]; exact h.i j v hv, fun i hi => by rw [hb.cell (p := ⟨1, i, none⟩) h.lt1]; exact h.k i hi⟩
def zSt : St := ⟨0, 0, 0, 0, 0, 0, 0, 0⟩
theorem zero38 : ∀ w, (zeroValue 38).run Tryd.prog w = .ok (.agg (stv zSt)) w := fun _ => by kernel_rfl
theorem info38 (s : St) : (Tryd.prog.info? 38).map (·.size) = some (stv s).toList.length := by kernel_rfl
theorem info46 : (Tryd.prog.info? 46).map (·.size) = some 128 := by kernel_rfl
theorem i46 {vs : List Value} (h : vs.length = 128) : (Tryd.prog.info? 46).map (·.size) = some vs.length := by rw [h]; exact info46
theorem V_not (x : BitVec 64) : bits .xor .u64 (if IntKind.u64.signed = true then -1 else IntKind.u64.max) (V x) = V (~~~x) := by
  have h : (if IntKind.u64.signed = true then (-1 : Int) else IntKind.u64.max) = V (BitVec.allOnes 64) := by decide +kernel
  rw [h, V_xor, BitVec.allOnes_xor]
/-- What stays through the rounds. -/
structure Pd (w : World) (sv : Array Value) (g : Nat) (D : List (BitVec 64)) (wr : World) : Prop where
  x : Blk wr g 55 (vws D)
  s : Blk wr w.heap.size 38 sv.toList
  r : Blk wr (w.heap.size + 1 + 1) 38 (stv zSt).toList
  bel : Below w.heap.size w wr
theorem Pd.drewN {w wr : World} {sv : Array Value} {g : Nat} {D : List (BitVec 64)} (h : Pd w sv g D wr) (k : Nat) : Pd w sv g D (wr.drewN k) := ⟨h.x, h.s, h.r, ⟨h.bel.os, h.bel.tape, h.bel.output, h.bel.size, h.bel.block⟩⟩
/-- What holds at the head of each of the eighty rounds. -/
def RelC (w : World) (sv : Array Value) (G : Nat) (D : List (BitVec 64)) (s : St) (a b c d e f g h i : Value) (wr : World) : Prop :=
  ∃ k : Nat, k ≤ 80 ∧ i = .int .i64 k ∧ (a = .int .u64 (V (rounds s D k).a) ∧ b = .int .u64 (V (rounds s D k).b) ∧ c = .int .u64 (V (rounds s D k).c) ∧ d = .int .u64 (V (rounds s D k).d) ∧
    e = .int .u64 (V (rounds s D k).e) ∧ f = .int .u64 (V (rounds s D k).f) ∧ g = .int .u64 (V (rounds s D k).g) ∧ h = .int .u64 (V (rounds s D k).h)) ∧ Pd w sv G D wr
theorem RelC.step {w wr : World} {sv : Array Value} {G k : Nat} {D : List (BitVec 64)} {s T : St} (hk : k < 80) (hT : T = rounds s D k) {Kk x : BitVec 64} (hK : Kk = KK.getD k 0) (hx : x = D.getD k 0) (hP : Pd w sv G D wr) :
    RelC w sv G D s (.int .u64 (V (T.h + up1 T.e + (T.e &&& T.f ^^^ ~~~T.e &&& T.g) + Kk + x + (up0 T.a + (T.a &&& T.b ^^^ T.a &&& T.c ^^^ T.b &&& T.c))))) (.int .u64 (V T.a)) (.int .u64 (V T.b)) (.int .u64 (V T.c)) (.int .u64 (V (T.d + (T.h + up1 T.e + (T.e &&& T.f ^^^ ~~~T.e &&& T.g) + Kk + x)))) (.int .u64 (V T.e)) (.int .u64 (V T.f)) (.int .u64 (V T.g)) (.int .i64 ((k : Int) + 1)) wr := by
  refine ⟨k + 1, by omega, by simp, ?_, hP⟩
  subst hT hK hx
  exact ⟨rfl, rfl, rfl, rfl, rfl, rfl, rfl, rfl⟩
set_option maxRecDepth 100000 in
set_option maxHeartbeats 4000000 in
theorem proc_any (s : St) (C : List (BitVec 8)) (hC : C.length = 128) (w : World) (hG : Glob w) :
    Calls Tryd.prog 22 #[.agg (stv s), .agg (vbs C).toArray] w fun e w' => e = .returned (.agg (stv (proc s C))) ∧ Below w.heap.size w w' := by
  have hz := zero38
  have hz5 := zero55
  have b0 := ((Blk.new w 38 (stv s)).alloc (.cells (vbs C).toArray 46)).alloc (.cells (stv zSt) 38)
  have b1 := (Blk.new (w.alloc (.cells (stv s) 38)) 46 (vbs C).toArray).alloc (.cells (stv zSt) 38)
  have b2 := Blk.new ((w.alloc (.cells (stv s) 38)).alloc (.cells (vbs C).toArray 46)) 38 (stv zSt)
  have hb : Below w.heap.size w (((w.alloc (.cells (stv s) 38)).alloc (.cells (vbs C).toArray 46)).alloc (.cells (stv zSt) 38)) := (((Below.refl _ _).alloc (Nat.le_refl _) _).alloc (by simp) _).alloc (by simp; omega) _
  rw [show (w.alloc (.cells (stv s) 38)).heap.size = w.heap.size + 1 by simp] at b1
  rw [show ((w.alloc (.cells (stv s) 38)).alloc (.cells (vbs C).toArray 46)).heap.size = w.heap.size + 1 + 1 by simp] at b2
  have HC := Lib.hid hC
  have HGl := Lib.hid hG
  obtain ⟨sv, hsv⟩ : ∃ sv, sv = stv s := ⟨_, rfl⟩
  rw [← hsv] at b0 b1 b2 hb ⊢
  have HSv := Lib.hid hsv
  clear hC hG hsv
  go_enter Tryd.func22, Tryd.ntmps22
  go_upto_region 1 with fail
  generalize ((w.alloc (.cells sv 38)).alloc (.cells (vbs C).toArray 46)).alloc (.cells (stv zSt) 38) = W0 at b0 b1 b2 hb ⊢
  have HRg := Lib.hid b1.range
  have HI46 := Lib.hid (i46 (show (vbs C).length = 128 by rw [vbs_len]; exact HC.out))
  have K30 := Lib.hid (schedule_any C HC.out W0)
  have HB0 := Lib.hid b0
  have HB2 := Lib.hid b2
  have HBl := Lib.hid hb
  have hDl : (vws (sch C 80)).length = 80 := by rw [vws_len, sch_len]
  obtain ⟨D, hD⟩ : ∃ D, D = sch C 80 := ⟨_, rfl⟩
  rw [← hD] at K30 hDl
  have HDl := Lib.hid hDl
  have HD := Lib.hid hD
  have HI55 := Lib.hid (i55 hDl)
  clear b0 b1 b2 hb hDl hD
  go_upto_region 2 with (first
    | (refine wpList_load_mid (op := ⟨some 17, _, _, _, _, _⟩) rfl 46 (.tmp 3) rfl (w.heap.size + 1) 0 rfl (vbs C) _ HRg.out Tryd.underlying46 rfl HI46.out ?_)
    | (go_at_call 30; (with_reducible refine K30.out.mono ?_); rintro e w2 ⟨rfl, hb2⟩; have Hb2 := Lib.hid hb2; have HTh : Hid ((w2.alloc (.cells (vws Z80).toArray 55)).there w2.heap.size 0 80) := (Blk.new w2 55 (vws Z80).toArray).there; clear hb2; dsimp only)
    | (refine wpList_store_mid (op := ⟨none, _, _, _, _, _⟩) rfl 55 (.tmp 5) (.tmp 18) rfl w2.heap.size 0 (vws D).toArray rfl rfl (there_arr HTh.out HDl.out) (info_arr HI55.out) (all_oneCell_toArray (vws_one _)) ?_))
  have hP : Pd w sv w2.heap.size D ((w2.alloc (Obj.cells (vws Z80).toArray 55)).setCells w2.heap.size 0 (vws D)) := by
    have hB22 : Below w2.heap.size w2 ((w2.alloc (Obj.cells (vws Z80).toArray 55)).setCells w2.heap.size 0 (vws D)) := below_setCells' (Nat.le_refl _) _ ((Below.refl _ _).alloc (Nat.le_refl _) _)
    have hk : ∀ b, b < W0.heap.size → ((w2.alloc (Obj.cells (vws Z80).toArray 55)).setCells w2.heap.size 0 (vws D)).heap[b]? = W0.heap[b]? := fun b hb => (hB22.block b (Nat.lt_of_lt_of_le hb Hb2.out.size)).trans (Hb2.out.block b hb)
    refine ⟨(Blk.new w2 55 (vws Z80).toArray).setCells (vws D) (by rw [HDl.out]; rfl), ?_, ?_, HBl.out.trans ((Hb2.out.trans (hB22.mono Hb2.out.size)).mono HBl.out.size)⟩
    · have := HB0.out; unfold Blk at this ⊢; rw [hk _ HB0.out.lt]; exact this
    · have := HB2.out; unfold Blk at this ⊢; rw [hk _ HB2.out.lt]; exact this
  generalize w2.heap.size = g5 at hP ⊢
  generalize hW3 : (w2.alloc (Obj.cells (vws Z80).toArray 55)).setCells g5 0 (vws D) = W3 at hP ⊢
  have HP := Lib.hid hP
  have hsl : sv.toList = vws (stl s) := by rw [HSv.out]; rfl
  have hq := hP.s
  rw [hsl] at hq
  have c0 : W3.cell? ⟨w.heap.size, 0, none⟩ = some (.int .u64 (V s.a)) := hq.cell rfl
  have c1 : W3.cell? ⟨w.heap.size, 1, none⟩ = some (.int .u64 (V s.b)) := hq.cell rfl
  have c2 : W3.cell? ⟨w.heap.size, 2, none⟩ = some (.int .u64 (V s.c)) := hq.cell rfl
  have c3 : W3.cell? ⟨w.heap.size, 3, none⟩ = some (.int .u64 (V s.d)) := hq.cell rfl
  have c4 : W3.cell? ⟨w.heap.size, 4, none⟩ = some (.int .u64 (V s.e)) := hq.cell rfl
  have c5 : W3.cell? ⟨w.heap.size, 5, none⟩ = some (.int .u64 (V s.f)) := hq.cell rfl
  have c6 : W3.cell? ⟨w.heap.size, 6, none⟩ = some (.int .u64 (V s.g)) := hq.cell rfl
  have c7 : W3.cell? ⟨w.heap.size, 7, none⟩ = some (.int .u64 (V s.h)) := hq.cell rfl
  have Hsl := Lib.hid hsl
  clear hP hq hW3 hz hz5 hsl HB0 HB2 HTh Hb2
  simp only [Act.put, List.setIfInBounds_toArray, List.set_cons_zero, List.set_cons_succ, List.getElem_toArray, List.getElem_cons_zero, List.getElem_cons_succ]
  go_quiet (fail)
  go_wp2_with fail
  clear c0 c1 c2 c3 c4 c5 c6 c7
  go_loopw [6, 7, 8, 9, 10, 11, 12, 13, 35] (fun a b c d e f g h i wr => RelC w sv g5 D s a b c d e f g h i wr) (fun _ _ _ _ _ _ _ _ i _ => 80 - (intOf i).toNat)
  case atStart => exact ⟨0, Nat.zero_le _, rfl, ⟨rfl, rfl, rfl, rfl, rfl, rfl, rfl, rfl⟩, HP.out.drewN _⟩
  case round =>
    obtain ⟨k, hk, rfl, ⟨rfl, rfl, rfl, rfl, rfl, rfl, rfl, rfl⟩, hP⟩ := hrel
    have HPr := Lib.hid hP
    obtain ⟨T, hT⟩ : ∃ T, T = rounds s D k := ⟨_, rfl⟩
    rw [← hT]
    have HT := Lib.hid hT
    clear hT HP
    by_cases hlt : k < 80
    · have cK := (HGl.out.below hP.bel).k k hlt
      have cX := hP.x.cell (vws_at (l := D) (j := k) (by have := HDl.out; rw [vws_len] at this; omega))
      obtain ⟨Kk, hKk⟩ : ∃ x, x = KK.getD k 0 := ⟨_, rfl⟩
      obtain ⟨x, hx⟩ : ∃ x, x = D.getD k 0 := ⟨_, rfl⟩
      rw [← hKk] at cK
      rw [← hx] at cX
      have HKk := Lib.hid hKk
      have Hx := Lib.hid hx
      have k0 : (0 : Int) ≤ (k : Int) := by omega
      have k1 : (k : Int) < 80 := by omega
      have hadd := V_add
      have hand := V_and
      have hxor := V_xor
      have hnot := V_not
      have K31 : Hid (∀ n, Calls Tryd.prog 31 #[.int .u64 (V T.e)] (wr.drewN n) fun e w'' => e = .returned (.int .u64 (V (up1 T.e))) ∧ ∃ m, w'' = wr.drewN m) := fun n => (up1_any T.e _).mono fun _ _ ⟨a, b⟩ => ⟨a, n, b.symm⟩
      have K32 : Hid (∀ W, Calls Tryd.prog 32 #[.int .u64 (V T.a)] W fun e w' => e = .returned (.int .u64 (V (up0 T.a))) ∧ W = w') := fun W => up0_any T.a W
      clear hP hKk hx
      go_wp2_with fail
      go_quiet ((exact K31.out _))
      clear cK cX
      go_wp2_with (go_at_call 32; (with_reducible refine (K32.out _).mono ?_); rintro e w' ⟨rfl, rfl⟩; dsimp only)
      go_roundw
      case rel => exact RelC.step hlt HT.out HKk.out Hx.out (HPr.out.drewN _)
      case measure => simp [intOf]; omega
    · obtain rfl : k = 80 := by omega
      have hq := hP.s
      rw [Hsl.out] at hq
      have c0 : wr.cell? ⟨w.heap.size, 0, none⟩ = some (.int .u64 (V s.a)) := hq.cell rfl
      have c1 : wr.cell? ⟨w.heap.size, 1, none⟩ = some (.int .u64 (V s.b)) := hq.cell rfl
      have c2 : wr.cell? ⟨w.heap.size, 2, none⟩ = some (.int .u64 (V s.c)) := hq.cell rfl
      have c3 : wr.cell? ⟨w.heap.size, 3, none⟩ = some (.int .u64 (V s.d)) := hq.cell rfl
      have c4 : wr.cell? ⟨w.heap.size, 4, none⟩ = some (.int .u64 (V s.e)) := hq.cell rfl
      have c5 : wr.cell? ⟨w.heap.size, 5, none⟩ = some (.int .u64 (V s.f)) := hq.cell rfl
      have c6 : wr.cell? ⟨w.heap.size, 6, none⟩ = some (.int .u64 (V s.g)) := hq.cell rfl
      have c7 : wr.cell? ⟨w.heap.size, 7, none⟩ = some (.int .u64 (V s.h)) := hq.cell rfl
      have hadd := V_add
      have e1 : proc s C = addS s T := by unfold proc; rw [← HD.out, HT.out]
      have HE := Lib.hid e1
      have HTh : Hid (wr.there (w.heap.size + 1 + 1) 0 (#[.int .u64 (V (s.a + T.a)), .int .u64 (V (s.b + T.b)), .int .u64 (V (s.c + T.c)), .int .u64 (V (s.d + T.d)), .int .u64 (V (s.e + T.e)), .int .u64 (V (s.f + T.f)), .int .u64 (V (s.g + T.g)), .int .u64 (V (s.h + T.h))] : Array Value).size) := hP.r.there
      have HI : Hid ((Tryd.prog.info? 38).map (·.size) = some (#[.int .u64 (V (s.a + T.a)), .int .u64 (V (s.b + T.b)), .int .u64 (V (s.c + T.c)), .int .u64 (V (s.d + T.d)), .int .u64 (V (s.e + T.e)), .int .u64 (V (s.f + T.f)), .int .u64 (V (s.g + T.g)), .int .u64 (V (s.h + T.h))] : Array Value).size) := info38 (addS s T)
      have HOne : Hid ((#[.int .u64 (V (s.a + T.a)), .int .u64 (V (s.b + T.b)), .int .u64 (V (s.c + T.c)), .int .u64 (V (s.d + T.d)), .int .u64 (V (s.e + T.e)), .int .u64 (V (s.f + T.f)), .int .u64 (V (s.g + T.g)), .int .u64 (V (s.h + T.h))] : Array Value).all (·.oneCell') = true) := stv_one (addS s T)
      have Hr := Lib.hid hP.r
      have Hb := Lib.hid hP.bel
      clear hP hq e1
      go_wp2_with (with_reducible refine wpList_store_mid rfl 38 (.tmp 4) (.tmp 118) rfl (w.heap.size + 1 + 1) 0 #[.int .u64 (V (s.a + T.a)), .int .u64 (V (s.b + T.b)), .int .u64 (V (s.c + T.c)), .int .u64 (V (s.d + T.d)), .int .u64 (V (s.e + T.e)), .int .u64 (V (s.f + T.f)), .int .u64 (V (s.g + T.g)), .int .u64 (V (s.h + T.h))] rfl rfl HTh.out HI.out HOne.out ?_)
      rw [HE.out]
      have hS2 : Blk (wr.setCells (w.heap.size + 1 + 1) 0 (stv (addS s T)).toList) (w.heap.size + 1 + 1) 38 (stv (addS s T)).toList := Hr.out.setCells _ rfl
      have hSb := below_setCells (show w.heap.size ≤ w.heap.size + 1 + 1 by omega) (stv (addS s T)).toList 0 wr Hb.out
      have hlv := run_loadVar_mid (P := Tryd.prog) (wr.setCells (w.heap.size + 1 + 1) 0 (stv (addS s T)).toList) (w.heap.size + 1 + 1) 0 38 _ _ hS2.range Tryd.underlying38 rfl (info38 _)
      rw [show (stv (addS s T)).toList.toArray = stv (addS s T) from rfl] at hlv
      change bodyPost _ _ _ _ _ (wr.setCells (w.heap.size + 1 + 1) 0 (stv (addS s T)).toList)
      generalize wr.setCells (w.heap.size + 1 + 1) 0 (stv (addS s T)).toList = WF at hlv hSb ⊢
      exact bodyPost_ret (v := .agg (stv (addS s T))) (by simp [results, Tryd.results22, asAddr, Act.put, hlv]) rfl ⟨rfl, hSb⟩
end Go.Proofs.YtffngfjbaimbhaaDoor
