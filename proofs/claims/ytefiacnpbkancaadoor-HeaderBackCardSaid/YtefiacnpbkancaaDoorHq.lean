/- The law HeaderBack returns true for every two headers and every 80 bytes, in a world whose two tables are as laid. -/
import Derived.Test.YtefiacnpbkancaaDoorHp
namespace Go.Proofs.YtefiacnpbkancaaDoor
open Go.RowKit
set_option linter.unusedVariables false
set_option linter.unusedSimpArgs false
set_option maxRecDepth 100000
theorem tol_data (s : ByteArray) : s.toList = s.data.toList := by
  have key : ∀ (n i : Nat) (r : List UInt8), s.size - i = n → ByteArray.toList.loop s i r = r.reverse ++ s.data.toList.drop i := by
    intro n
    induction n with
    | zero =>
      intro i r h
      unfold ByteArray.toList.loop
      rw [if_neg (by omega), List.drop_eq_nil_of_le (by rw [Array.length_toList]; show s.size ≤ i; omega)]
      simp
    | succ n ih =>
      intro i r h
      unfold ByteArray.toList.loop
      rw [if_pos (by omega), ih (i + 1) _ (by omega)]
      have hi : i < s.data.toList.length := by rw [Array.length_toList]; show i < s.size; omega
      rw [List.drop_eq_getElem_cons hi]
      have : s.get! i = s.data.toList[i] := by
        show s.data[i]! = _
        have h2 : i < s.data.size := by rw [Array.length_toList] at hi; exact hi
        rw [getElem!_pos s.data i h2]; simp
      simp [this]
  have := key (s.size - 0) 0 [] rfl
  simpa [ByteArray.toList] using this
theorem strB_list (L : List (BitVec 8)) : (strB L).toList = L.map UInt8.ofBitVec := by
  rw [tol_data]
  have key : ∀ (L : List (BitVec 8)) (r : ByteArray), ((L.map Bt).foldl (fun r n => r.push (UInt8.ofNat n.toNat)) r).data.toList = r.data.toList ++ L.map UInt8.ofBitVec := by
    intro L
    induction L with
    | nil => intro r; simp
    | cons x l ih =>
      intro r
      rw [List.map_cons, List.foldl_cons, ih]
      have e : UInt8.ofNat (Bt x).toNat = UInt8.ofBitVec x := by
        unfold Bt
        rw [Int.toNat_natCast]
        apply UInt8.toBitVec_inj.1
        simp
      rw [e]
      simp [ByteArray.push]
  have := key L ByteArray.empty
  simpa [strB] using this
theorem strB_eq {X Y : List (BitVec 8)} : (strB X).toList = (strB Y).toList ↔ X = Y := by
  rw [strB_list, strB_list]
  constructor
  · intro h
    have := congrArg (List.map UInt8.toBitVec) h
    have e : UInt8.toBitVec ∘ UInt8.ofBitVec = (id : BitVec 8 → BitVec 8) := funext fun x => rfl
    simpa [e] using this
  · rintro rfl; rfl
theorem strB_beq (X Y : List (BitVec 8)) : ((strB X).toList == (strB Y).toList) = decide (X = Y) := by
  by_cases h : X = Y
  · subst h; simp
  · have : ¬ (strB X).toList = (strB Y).toList := fun e => h (strB_eq.1 e)
    simp [h, this]

theorem eqIn26 {h g : THd} (kh : HdOk h) (kg : HdOk g) (w : World) : (Op.equalIn 10000 26 (.agg (hdV h).toArray) (.agg (hdV g).toArray)).run Tryd.prog w = .ok (decide (h = g)) w := by
  have := eql26 kh kg w
  rw [run_eql_struct] at this
  generalize (Op.equalIn 10000 26 (.agg (hdV h).toArray) (.agg (hdV g).toArray)).run Tryd.prog w = r at this ⊢
  generalize decide (h = g) = b at this ⊢
  cases r with
  | ok v w' =>
    simp only [Result.andThen_ok] at this
    injection this with e1 e2
    injection e1 with e1
    rw [e1, e2]
  | halt e w' => simp [Result.andThen] at this
theorem slice39 (b : Nat) (w : World) : (Instr.sliceAt 39 (.pointer (some ⟨b, 0, none⟩)) none none none).run Tryd.prog w = .ok (.slice (some ⟨b, 0, none⟩) 80 80) w := by
  rw [run_sliceAt_array_all w 39 _ (by kernel_rfl)]
  have hs : (sizeOf (Tryd.prog.elem 39)).run Tryd.prog w = .ok 1 w := by kernel_rfl
  have hl : Tryd.prog.arrayLen 39 = 80 := by kernel_rfl
  rw [hs, hl]
  rfl
theorem rd_grown_sb {w w' : World} {A : Option Addr} {L : List (BitVec 8)} (h : Rd w w.heap.size A L) (hs : SB w w') : Rd w' w'.heap.size A L := (up_to h hs (Nat.le_refl _)).up hs.size
theorem hdB_inj {h g : THd} (kh : HdOk h) (kg : HdOk g) : hdB h = hdB g ↔ h = g := by
  constructor
  · intro e
    have := congrArg hdOf e
    rwa [hdOf_B kh, hdOf_B kg] at this
  · rintro rfl; rfl
set_option maxHeartbeats 16000000 in
theorem back_walk (h g : THd) (kh : HdOk h) (kg : HdOk g) (R : List (BitVec 8)) (hR : R.length = 80) (w : World) (hG : Glob w) : Calls Tryd.prog 5 #[.agg (hdV h).toArray, .agg (hdV g).toArray, .agg (vbs R).toArray] w fun e w' => e = .returned (.bool true) ∧ Below w.heap.size w w' := by
  have hz := zero26
  have ky := hdOf_ok hR
  have hyB := hdB_of hR
  obtain ⟨y, hy⟩ : ∃ y, y = hdOf R := ⟨_, rfl⟩
  rw [← hy] at ky hyB
  have KPh := Lib.hid (fun wq => hput_any h kh wq)
  have KPg := Lib.hid (fun wq => hput_any g kg wq)
  have KPy := Lib.hid (fun wq => hput_any y ky wq)
  have KIh := Lib.hid (fun wq gl => hid_any h kh wq gl)
  have KIy := Lib.hid (fun wq gl => hid_any y ky wq gl)
  have hLh := hdB_len kh
  have hLg := hdB_len kg
  have hof := hdOf_B kh
  obtain ⟨β, hβ⟩ : ∃ b, b = decide (h = g) := ⟨_, rfl⟩
  have hstr : ((strB (hdB h)).toList == (strB (hdB g)).toList) = β := by rw [strB_beq, hβ]; simp [hdB_inj kh kg]
  have hst2 : ((strB R).toList == (strB R).toList) = true := by simp
  have heq1 := eqIn26 kh kg
  rw [← hβ] at heq1
  have heq0 : ∀ w, (Op.equalIn 10000 26 (.agg (hdV h).toArray) (.agg (hdV h).toArray)).run Tryd.prog w = .ok true w := fun w => by rw [eqIn26 kh kh w]; simp
  have hbb : (β == β) = true := by simp
  rw [hyB] at KPy KIy
  obtain ⟨Lh, hLhe⟩ : ∃ L, L = hdB h := ⟨_, rfl⟩
  obtain ⟨Lg, hLge⟩ : ∃ L, L = hdB g := ⟨_, rfl⟩
  rw [← hLhe] at KPh KIh hLh hof hstr
  rw [← hLge] at KPg hLg hstr
  obtain ⟨D1, hD1⟩ : ∃ D, D = twiceB Lh := ⟨_, rfl⟩
  obtain ⟨D2, hD2⟩ : ∃ D, D = twiceB R := ⟨_, rfl⟩
  have hD1l : D1.length = 32 := by rw [hD1]; exact sumB_len _
  have hD2l : D2.length = 32 := by rw [hD2]; exact sumB_len _
  rw [← hD1] at KIh
  rw [← hD2] at KIy
  have KT : Hid (∀ (L D : List (BitVec 8)), L.length = 80 → D = twiceB L → ∀ (A : Option Addr) (c : Nat) (wq : World), Glob wq → Rd wq wq.heap.size A L → 80 ≤ c → Calls Tryd.prog 16 #[.slice A 80 c] wq fun e w' => e = .returned (.agg (vbs D).toArray) ∧ Below wq.heap.size wq w') := fun L D l d A c wq g1 g2 g3 => by
    have := twice_any A c L wq g1 g2 (by omega) (by omega)
    rw [l, ← d] at this
    exact this
  have KT1 := Lib.hid (KT.out Lh D1 hLh hD1)
  have KT2 := Lib.hid (KT.out R D2 hR hD2)
  have e24a := Lib.hid (fun w => (eqIn24 9998 D1 D1 hD1l hD1l w).trans (by simp : _ = Result.ok true w))
  have e24b := Lib.hid (fun w => (eqIn24 9998 D2 D2 hD2l hD2l w).trans (by simp : _ = Result.ok true w))
  have KG1 : Hid (∀ (A : Option Addr) (c : Nat) (wq : World), Rd wq wq.heap.size A Lh → (A = none → c = 0) → Calls Tryd.prog 14 #[.slice A 80 c] wq fun e w' => e = .returned (.tuple #[.agg (hdV h).toArray, .int .i64 0]) ∧ Below wq.heap.size wq w') := fun A c wq h1 h2 => by
    have := hget_any A Lh 80 c wq.heap.size wq hLh h1 (Nat.le_refl _) h2 (by omega)
    unfold HGetPost hgetH hgetE at this
    rw [if_pos hLh, if_pos hLh, hof] at this
    exact this
  have KG2 : Hid (∀ (A : Option Addr) (c : Nat) (wq : World), Rd wq wq.heap.size A R → (A = none → c = 0) → Calls Tryd.prog 14 #[.slice A 80 c] wq fun e w' => e = .returned (.tuple #[.agg (hdV y).toArray, .int .i64 0]) ∧ Below wq.heap.size wq w') := fun A c wq h1 h2 => by
    have := hget_any A R 80 c wq.heap.size wq hR h1 (Nat.le_refl _) h2 (by omega)
    unfold HGetPost hgetH hgetE at this
    rw [if_pos hR, if_pos hR, ← hy] at this
    exact this
  have KW := Lib.hid (fun wq gl => works_any wq gl)
  have HIh := Lib.hid (info26 kh)
  have HIg := Lib.hid (info26 kg)
  have HIy := Lib.hid (info26 ky)
  have HIvh := Lib.hid (info26v kh)
  have HIvy := Lib.hid (info26v ky)
  have HOh := Lib.hid (hdV_one h)
  have HOy := Lib.hid (hdV_one y)
  have HBXh := Lib.hid (fun w => box_new w kh)
  have HBXy := Lib.hid (fun w => box_new w ky)
  have HBTh := Lib.hid (fun w => box_there w kh)
  have HBTy := Lib.hid (fun w => box_there w ky)
  have HG := Lib.hid hG
  have HLh := Lib.hid hLh
  have HLg := Lib.hid hLg
  have HR := Lib.hid hR
  have HEQ := Lib.hid (⟨hstr, hst2, heq1, heq0, hbb⟩ : _ ∧ _ ∧ _ ∧ _ ∧ _)
  have es1 : (w.alloc (.cells (hdV h).toArray 26)).heap.size = w.heap.size + 1 := by simp
  have es2 : ((w.alloc (.cells (hdV h).toArray 26)).alloc (.cells (hdV g).toArray 26)).heap.size = w.heap.size + 1 + 1 := by simp
  obtain ⟨W0, hW0⟩ : ∃ W, W = ((w.alloc (.cells (hdV h).toArray 26)).alloc (.cells (hdV g).toArray 26)).alloc (.cells (vbs R).toArray 39) := ⟨_, rfl⟩
  have b1 : Blk W0 w.heap.size 26 (hdV h) := by rw [hW0]; exact (((Blk.new w 26 (hdV h).toArray).alloc _).alloc _)
  have b2 : Blk W0 (w.heap.size + 1) 26 (hdV g) := by
    have := (Blk.new (w.alloc (.cells (hdV h).toArray 26)) 26 (hdV g).toArray).alloc (.cells (vbs R).toArray 39)
    rw [es1] at this
    rw [hW0]; exact this
  have b3 : Blk W0 (w.heap.size + 1 + 1) 39 (vbs R) := by
    have := Blk.new ((w.alloc (.cells (hdV h).toArray 26)).alloc (.cells (hdV g).toArray 26)) 39 (vbs R).toArray
    rw [es2] at this
    rw [hW0]; exact this
  have hb0 : Below w.heap.size w W0 := by rw [hW0]; exact (((Below.refl w.heap.size w).alloc (Nat.le_refl _) _).alloc (by simp) _).alloc (by simp; omega) _
  have BB := Lib.hid (⟨b1, b2, b3⟩ : _ ∧ _ ∧ _)
  have HB0 := Lib.hid hb0
  have ES := Lib.hid (⟨es1, es2⟩ : _ ∧ _)
  have HW0 := Lib.hid hW0
  clear hy hyB hLh hLg hof hβ hstr hst2 heq1 heq0 hbb hLhe hLge hD1 hD2 hD1l hD2l hG hR kh kg ky es1 es2 b1 b2 b3 hb0 hW0 KT
  go_enter Tryd.func5, Tryd.ntmps5
  go_upto_region 1 with fail
  simp only [ES.out.1, ES.out.2, ← HW0.out]
  generalize hWd : W0.drew = Wd
  have BBd : Hid (Blk Wd w.heap.size 26 (hdV h) ∧ Blk Wd (w.heap.size + 1) 26 (hdV g) ∧ Blk Wd (w.heap.size + 1 + 1) 39 (vbs R)) := (hWd ▸ (⟨BB.out.1.drew, BB.out.2.1.drew, BB.out.2.2.drew⟩ : _ ∧ _ ∧ _) : Blk Wd w.heap.size 26 (hdV h) ∧ Blk Wd (w.heap.size + 1) 26 (hdV g) ∧ Blk Wd (w.heap.size + 1 + 1) 39 (vbs R))
  have HBd : Hid (Below w.heap.size w Wd) := (hWd ▸ HB0.out.drew : Below w.heap.size w Wd)
  refine wp_region_but (z := 999) (SB Wd) (by kernel_rfl) ?_
  rw [hWd]
  have hS : SB Wd Wd := SB.refl Wd
  clear hWd
  refine AnyBut.takeE (i := 0) (v := .agg (hdV h).toArray) rfl (by kernel_rfl) (by kernel_rfl) (by kernel_rfl) (by kernel_rfl) (fun _ _ _ h => h) ?_ hS ?_
  · exact yieldsIf_load_mid (by rfl) 26 (.tmp 3) rfl (w.heap.size) 0 rfl (hdV h) _ (fun wq hq => SB.range hq BBd.out.1.range BBd.out.1.lt) Tryd.underlying26 rfl HIh.out
  try simp only [Act.put, List.setIfInBounds_toArray, List.set_cons_zero, List.set_cons_succ, List.getElem_toArray, List.getElem_cons_zero, List.getElem_cons_succ]
  refine AnyBut.takeE (i := 2) (v := .agg (hdV g).toArray) rfl (by kernel_rfl) (by kernel_rfl) (by kernel_rfl) (by kernel_rfl) (fun _ _ _ h => h) ?_ hS ?_
  · exact yieldsIf_load_mid (by rfl) 26 (.tmp 4) rfl (w.heap.size + 1) 0 rfl (hdV g) _ (fun wq hq => SB.range hq BBd.out.2.1.range BBd.out.2.1.lt) Tryd.underlying26 rfl HIg.out
  try simp only [Act.put, List.setIfInBounds_toArray, List.set_cons_zero, List.set_cons_succ, List.getElem_toArray, List.getElem_cons_zero, List.getElem_cons_succ]
  refine AnyBut.gone (i := 1) (by kernel_rfl) rfl (by rfl) (fun K hK => ?_)
  go_simp
  (with_reducible refine (KPh.out _).mono ?_)
  rintro e w1 ⟨v1, rfl, ho, hb⟩
  obtain ⟨A1, c1, rfl, hr1, hc1, hn1⟩ := ho.slice HLh.out
  have HO1 := Lib.hid ho
  have HR1 := Lib.hid hr1
  have HC1 := Lib.hid (⟨hc1, hn1⟩ : _ ∧ _)
  clear ho hr1 hc1 hn1
  have hS1 : SB Wd w1 := SB.next hS hb
  have HS1 := Lib.hid hS1
  have HBl1 := Lib.hid hb
  clear hb
  dsimp only
  refine hK _ _ (fun _ => hS1) ?_
  clear hK K hS
  try simp only [Act.put, List.setIfInBounds_toArray, List.set_cons_zero, List.set_cons_succ, List.getElem_toArray, List.getElem_cons_zero, List.getElem_cons_succ]
  refine AnyBut.stronger (S' := SB w1) (fun _ h => Below.trans hS1 (Below.mono h hS1.size)) ?_
  clear hS1
  have hS : SB w1 w1 := SB.refl w1
  refine AnyBut.gone (i := 3) (by kernel_rfl) rfl (by rfl) (fun K hK => ?_)
  go_simp
  (with_reducible refine (KPg.out _).mono ?_)
  rintro e w2 ⟨v2, rfl, ho, hb⟩
  obtain ⟨A2, c2, rfl, _, _, _⟩ := ho.slice HLg.out
  have HO2 := Lib.hid ho
  clear ho
  have hS2 : SB w1 w2 := SB.next hS hb
  have HS2 := Lib.hid hS2
  have HBl2 := Lib.hid hb
  clear hb
  dsimp only
  refine hK _ _ (fun _ => hS2) ?_
  clear hK K hS
  try simp only [Act.put, List.setIfInBounds_toArray, List.set_cons_zero, List.set_cons_succ, List.getElem_toArray, List.getElem_cons_zero, List.getElem_cons_succ]
  refine AnyBut.stronger (S' := SB w2) (fun _ h => Below.trans hS2 (Below.mono h hS2.size)) ?_
  clear hS2
  have hS : SB w2 w2 := SB.refl w2
  refine AnyBut.takeE (i := 4) (v := ?_) rfl (by kernel_rfl) (by kernel_rfl) (by kernel_rfl) (by kernel_rfl) (fun _ _ _ h => h) (Or.inl ⟨by rfl, ?_⟩) hS ?_
  rotate_left
  · (intro wq hq; go_simp; try with_reducible rfl)
  try simp only [Act.put, List.setIfInBounds_toArray, List.set_cons_zero, List.set_cons_succ, List.getElem_toArray, List.getElem_cons_zero, List.getElem_cons_succ]
  refine AnyBut.gone (i := 5) (by kernel_rfl) rfl (by rfl) (fun K hK => ?_)
  go_simp
  refine hK _ _ (fun _ => hS) ?_
  clear hK K
  refine AnyBut.done (by kernel_rfl) ?_ _
  try dsimp only [Exit.then]
  clear hS
  have HS02 : Hid (SB Wd w2) := SB.trans HS1.out HS2.out
  have HR12 : Hid (Rd w2 w2.heap.size A1 Lh) := rd_grown_sb HR1.out HS2.out
  go_upto_region 3 with (first
    | (go_at_call 14; (with_reducible refine (KG1.out _ _ _ HR12.out HC1.out.2).mono ?_); rintro e w3 ⟨rfl, hb3⟩; have HB3 := Lib.hid hb3; clear hb3; dsimp only)
    | (with_reducible refine wpList_store_mid rfl 26 (.tmp 9) (.tmp 20) rfl w3.heap.size 0 (hdV h).toArray rfl rfl (HBTh.out w3) HIvh.out (all_oneCell_toArray HOh.out) ?_))
  have h4 := (HBXh.out w3).2
  have hB4 := (HBXh.out w3).1
  generalize (w3.alloc (.cells (hdV hd0).toArray 26)).setCells w3.heap.size 0 (hdV h) = W4 at h4 hB4 ⊢
  have HS24 : Hid (SB w2 W4) := HB3.out.trans (h4.mono HB3.out.size)
  have HB4 := Lib.hid hB4
  have HS04 : Hid (SB Wd W4) := SB.trans HS02.out HS24.out
  have HR4 : Hid (Rd W4 W4.heap.size (some ⟨w.heap.size + 1 + 1, 0, none⟩) R) := Rd.of_blk (BBd.out.2.2.below HS04.out BBd.out.2.2.lt)
  generalize w3.heap.size = g1 at HB4 ⊢
  clear h4 hB4
  have hsl := slice39 (w.heap.size + 1 + 1)
  go_upto_region 4 with (first
    | (go_at_call 14; (with_reducible refine (KG2.out _ _ _ HR4.out (fun h => by cases h)).mono ?_); rintro e w5 ⟨rfl, hb5⟩; have HB5 := Lib.hid hb5; clear hb5; dsimp only)
    | (with_reducible refine wpList_store_mid rfl 26 (.tmp 11) (.tmp 25) rfl w5.heap.size 0 (hdV y).toArray rfl rfl (HBTy.out w5) HIvy.out (all_oneCell_toArray HOy.out) ?_))
  have h6 := (HBXy.out w5).2
  have hB6 := (HBXy.out w5).1
  generalize (w5.alloc (.cells (hdV hd0).toArray 26)).setCells w5.heap.size 0 (hdV y) = W6 at h6 hB6 ⊢
  have HS46 : Hid (SB W4 W6) := HB5.out.trans (h6.mono HB5.out.size)
  have HB6 := Lib.hid hB6
  generalize w5.heap.size = g2 at HB6 ⊢
  clear h6 hB6 hz
  try dsimp only [Act.put]
  generalize hWe : W6.drew = We
  have HS6e : Hid (SB W6 We) := (hWe ▸ ((Below.refl W6.heap.size W6).drew) : SB W6 We)
  have HS2e : Hid (SB w2 We) := SB.trans HS24.out (SB.trans HS46.out HS6e.out)
  have HS0e : Hid (SB Wd We) := SB.trans HS02.out HS2e.out
  have HBe : Hid (Below w.heap.size w We) := HBd.out.trans (Below.mono HS0e.out HBd.out.size)
  have T0 : Hid (∀ wq, SB We wq → Glob wq) := fun wq hq => HG.out.below (HBe.out.trans (Below.mono hq HBe.out.size))
  have Eh : Hid (∀ wq, SB We wq → wq.rangeAt w.heap.size 0 (hdV h)) := fun wq hq => SB.range (SB.trans HS0e.out hq) BBd.out.1.range BBd.out.1.lt
  have Eg : Hid (∀ wq, SB We wq → wq.rangeAt (w.heap.size + 1) 0 (hdV g)) := fun wq hq => SB.range (SB.trans HS0e.out hq) BBd.out.2.1.range BBd.out.2.1.lt
  have Ex : Hid (∀ wq, SB We wq → wq.rangeAt g1 0 (hdV h)) := fun wq hq => SB.range (SB.trans HS46.out (SB.trans HS6e.out hq)) HB4.out.range HB4.out.lt
  have Ey : Hid (∀ wq, SB We wq → wq.rangeAt g2 0 (hdV y)) := fun wq hq => SB.range (SB.trans HS6e.out hq) HB6.out.range HB6.out.lt
  have Cp : Hid (∀ wq, SB We wq → (convert 27 9 (.slice A1 80 c1)).run Tryd.prog wq = .ok (.string (strB Lh)) wq) := fun wq hq => conv_ob HO1.out (SB.trans HS2.out (SB.trans HS2e.out hq))
  have Cq : Hid (∀ wq, SB We wq → (convert 27 9 (.slice A2 80 c2)).run Tryd.prog wq = .ok (.string (strB Lg)) wq) := fun wq hq => conv_ob HO2.out (SB.trans HS2e.out hq)
  have Rr : Hid (∀ wq, SB We wq → Rd wq wq.heap.size (some ⟨w.heap.size + 1 + 1, 0, none⟩) R) := fun wq hq => Rd.of_blk (BBd.out.2.2.below (SB.trans HS0e.out hq) BBd.out.2.2.lt)
  have Cr : Hid (∀ wq, SB We wq → (convert 27 9 (.slice (some ⟨w.heap.size + 1 + 1, 0, none⟩) 80 80)).run Tryd.prog wq = .ok (.string (strB R)) wq) := fun wq hq => conv_n (Rr.out wq hq) HR.out.symm
  have Rp : Hid (∀ wq, SB We wq → Rd wq wq.heap.size A1 Lh) := fun wq hq => rd_grown_sb HR12.out (SB.trans HS2e.out hq)
  have HSL := Lib.hid hsl
  clear hsl
  refine wp_region_but (z := 999) (SB We) (by kernel_rfl) ?_
  rw [hWe]
  have hS : SB We We := SB.refl We
  clear hWe
  refine AnyBut.takeE (i := 0) (v := ?_) rfl (by kernel_rfl) (by kernel_rfl) (by kernel_rfl) (by kernel_rfl) (fun _ _ _ h => h) (Or.inl ⟨by rfl, ?_⟩) hS ?_
  rotate_left
  · (intro wq hq; go_simp; try with_reducible rfl)
  try simp only [Act.put, List.setIfInBounds_toArray, List.set_cons_zero, List.set_cons_succ, List.getElem_toArray, List.getElem_cons_zero, List.getElem_cons_succ]
  refine AnyBut.takeE (i := 1) (v := .bool true) rfl (by kernel_rfl) (by kernel_rfl) (by kernel_rfl) (by kernel_rfl) (fun _ _ _ h => h) (Or.inl ⟨by rfl, ?_⟩) hS ?_
  · intro wq hq
    go_simp
  try simp only [Act.put, List.setIfInBounds_toArray, List.set_cons_zero, List.set_cons_succ, List.getElem_toArray, List.getElem_cons_zero, List.getElem_cons_succ]
  refine AnyBut.takeE (i := 2) (v := ?_) rfl (by kernel_rfl) (by kernel_rfl) (by kernel_rfl) (by kernel_rfl) (fun _ _ _ h => h) (Or.inl ⟨by rfl, ?_⟩) hS ?_
  rotate_left
  · (intro wq hq; go_simp; try with_reducible rfl)
  try simp only [Act.put, List.setIfInBounds_toArray, List.set_cons_zero, List.set_cons_succ, List.getElem_toArray, List.getElem_cons_zero, List.getElem_cons_succ]
  refine AnyBut.takeE (i := 3) (v := .agg (hdV h).toArray) rfl (by kernel_rfl) (by kernel_rfl) (by kernel_rfl) (by kernel_rfl) (fun _ _ _ h => h) ?_ hS ?_
  · exact yieldsIf_load_mid (by rfl) 26 (.tmp 9) rfl (g1) 0 rfl (hdV h) _ (fun wq hq => Ex.out wq hq) Tryd.underlying26 rfl HIh.out
  try simp only [Act.put, List.setIfInBounds_toArray, List.set_cons_zero, List.set_cons_succ, List.getElem_toArray, List.getElem_cons_zero, List.getElem_cons_succ]
  refine AnyBut.takeE (i := 4) (v := .agg (hdV h).toArray) rfl (by kernel_rfl) (by kernel_rfl) (by kernel_rfl) (by kernel_rfl) (fun _ _ _ h => h) ?_ hS ?_
  · exact yieldsIf_load_mid (by rfl) 26 (.tmp 3) rfl (w.heap.size) 0 rfl (hdV h) _ (fun wq hq => Eh.out wq hq) Tryd.underlying26 rfl HIh.out
  try simp only [Act.put, List.setIfInBounds_toArray, List.set_cons_zero, List.set_cons_succ, List.getElem_toArray, List.getElem_cons_zero, List.getElem_cons_succ]
  refine AnyBut.takeE (i := 5) (v := .bool true) rfl (by kernel_rfl) (by kernel_rfl) (by kernel_rfl) (by kernel_rfl) (fun _ _ _ h => h) (Or.inl ⟨by rfl, ?_⟩) hS ?_
  · intro wq hq
    obtain ⟨hstr, hst2, heq1, heq0, hbb⟩ := HEQ.out
    go_simp
  try simp only [Act.put, List.setIfInBounds_toArray, List.set_cons_zero, List.set_cons_succ, List.getElem_toArray, List.getElem_cons_zero, List.getElem_cons_succ]
  refine AnyBut.takeE (i := 6) (v := ?_) rfl (by kernel_rfl) (by kernel_rfl) (by kernel_rfl) (by kernel_rfl) (fun _ _ _ h => h) (Or.inl ⟨by rfl, ?_⟩) hS ?_
  rotate_left
  · (intro wq hq; go_simp; try with_reducible rfl)
  try simp only [Act.put, List.setIfInBounds_toArray, List.set_cons_zero, List.set_cons_succ, List.getElem_toArray, List.getElem_cons_zero, List.getElem_cons_succ]
  refine AnyBut.takeE (i := 7) (v := ?_) rfl (by kernel_rfl) (by kernel_rfl) (by kernel_rfl) (by kernel_rfl) (fun _ _ _ h => h) (Or.inl ⟨by rfl, ?_⟩) hS ?_
  rotate_left
  · (intro wq hq; go_simp; try with_reducible rfl)
  try simp only [Act.put, List.setIfInBounds_toArray, List.set_cons_zero, List.set_cons_succ, List.getElem_toArray, List.getElem_cons_zero, List.getElem_cons_succ]
  refine AnyBut.takeE (i := 8) (v := ?_) rfl (by kernel_rfl) (by kernel_rfl) (by kernel_rfl) (by kernel_rfl) (fun _ _ _ h => h) (Or.inl ⟨by rfl, ?_⟩) hS ?_
  rotate_left
  · (intro wq hq; go_simp; try with_reducible rfl)
  try simp only [Act.put, List.setIfInBounds_toArray, List.set_cons_zero, List.set_cons_succ, List.getElem_toArray, List.getElem_cons_zero, List.getElem_cons_succ]
  refine AnyBut.takeE (i := 9) (v := .bool true) rfl (by kernel_rfl) (by kernel_rfl) (by kernel_rfl) (by kernel_rfl) (fun _ _ _ h => h) (Or.inl ⟨by rfl, ?_⟩) hS ?_
  · intro wq hq
    go_simp
  try simp only [Act.put, List.setIfInBounds_toArray, List.set_cons_zero, List.set_cons_succ, List.getElem_toArray, List.getElem_cons_zero, List.getElem_cons_succ]
  refine AnyBut.takeE (i := 10) (v := ?_) rfl (by kernel_rfl) (by kernel_rfl) (by kernel_rfl) (by kernel_rfl) (fun _ _ _ h => h) (Or.inl ⟨by rfl, ?_⟩) hS ?_
  rotate_left
  · (intro wq hq; go_simp; try with_reducible rfl)
  try simp only [Act.put, List.setIfInBounds_toArray, List.set_cons_zero, List.set_cons_succ, List.getElem_toArray, List.getElem_cons_zero, List.getElem_cons_succ]
  refine AnyBut.takeE (i := 11) (v := ?_) rfl (by kernel_rfl) (by kernel_rfl) (by kernel_rfl) (by kernel_rfl) (fun _ _ _ h => h) (Or.inl ⟨by rfl, ?_⟩) hS ?_
  rotate_left
  · (intro wq hq; go_simp; try with_reducible rfl)
  try simp only [Act.put, List.setIfInBounds_toArray, List.set_cons_zero, List.set_cons_succ, List.getElem_toArray, List.getElem_cons_zero, List.getElem_cons_succ]
  refine AnyBut.takeE (i := 12) (v := .agg (hdV y).toArray) rfl (by kernel_rfl) (by kernel_rfl) (by kernel_rfl) (by kernel_rfl) (fun _ _ _ h => h) ?_ hS ?_
  · exact yieldsIf_load_mid (by rfl) 26 (.tmp 11) rfl (g2) 0 rfl (hdV y) _ (fun wq hq => Ey.out wq hq) Tryd.underlying26 rfl HIy.out
  try simp only [Act.put, List.setIfInBounds_toArray, List.set_cons_zero, List.set_cons_succ, List.getElem_toArray, List.getElem_cons_zero, List.getElem_cons_succ]
  refine AnyBut.takeE (i := 15) (v := .slice (some ⟨w.heap.size + 1 + 1, 0, none⟩) 80 80) rfl (by kernel_rfl) (by kernel_rfl) (by kernel_rfl) (by kernel_rfl) (fun _ _ _ h => h) (Or.inl ⟨by rfl, ?_⟩) hS ?_
  · intro wq hq
    have hsl := HSL.out wq
    go_simp
  try simp only [Act.put, List.setIfInBounds_toArray, List.set_cons_zero, List.set_cons_succ, List.getElem_toArray, List.getElem_cons_zero, List.getElem_cons_succ]
  refine AnyBut.takeE (i := 16) (v := .string (strB R)) rfl (by kernel_rfl) (by kernel_rfl) (by kernel_rfl) (by kernel_rfl) (fun _ _ _ h => h) (Or.inl ⟨by rfl, ?_⟩) hS ?_
  · intro wq hq
    have hc := Cr.out wq hq
    go_simp
  try simp only [Act.put, List.setIfInBounds_toArray, List.set_cons_zero, List.set_cons_succ, List.getElem_toArray, List.getElem_cons_zero, List.getElem_cons_succ]
  refine AnyBut.gone (i := 13) (by kernel_rfl) rfl (by rfl) (fun K hK => ?_)
  go_simp
  (with_reducible refine (KPy.out _).mono ?_)
  rintro e w11 ⟨v1, rfl, ho, hb⟩
  obtain ⟨A3, c3, rfl, _, _, _⟩ := ho.slice HR.out
  have HO3 := Lib.hid ho
  clear ho
  have hS11 : SB We w11 := SB.next hS hb
  have HS11 := Lib.hid hS11
  have HBl11 := Lib.hid hb
  clear hb
  dsimp only
  refine hK _ _ (fun _ => hS11) ?_
  clear hK K hS
  try simp only [Act.put, List.setIfInBounds_toArray, List.set_cons_zero, List.set_cons_succ, List.getElem_toArray, List.getElem_cons_zero, List.getElem_cons_succ]
  refine AnyBut.stronger (S' := SB w11) (fun _ h => Below.trans hS11 (Below.mono h hS11.size)) ?_
  clear hS11
  have hS : SB w11 w11 := SB.refl w11
  have HX11 : Hid (SB We w11) := HS11.out
  refine AnyBut.takeE (i := 14) (v := .string (strB R)) rfl (by kernel_rfl) (by kernel_rfl) (by kernel_rfl) (by kernel_rfl) (fun _ _ _ h => h) (Or.inl ⟨by rfl, ?_⟩) hS ?_
  · intro wq hq
    have hc := conv_ob HO3.out hq
    go_simp
  try simp only [Act.put, List.setIfInBounds_toArray, List.set_cons_zero, List.set_cons_succ, List.getElem_toArray, List.getElem_cons_zero, List.getElem_cons_succ]
  refine AnyBut.takeE (i := 17) (v := .bool true) rfl (by kernel_rfl) (by kernel_rfl) (by kernel_rfl) (by kernel_rfl) (fun _ _ _ h => h) (Or.inl ⟨by rfl, ?_⟩) hS ?_
  · intro wq hq
    obtain ⟨hstr, hst2, heq1, heq0, hbb⟩ := HEQ.out
    go_simp
  try simp only [Act.put, List.setIfInBounds_toArray, List.set_cons_zero, List.set_cons_succ, List.getElem_toArray, List.getElem_cons_zero, List.getElem_cons_succ]
  refine AnyBut.takeE (i := 18) (v := ?_) rfl (by kernel_rfl) (by kernel_rfl) (by kernel_rfl) (by kernel_rfl) (fun _ _ _ h => h) (Or.inl ⟨by rfl, ?_⟩) hS ?_
  rotate_left
  · (intro wq hq; go_simp; try with_reducible rfl)
  try simp only [Act.put, List.setIfInBounds_toArray, List.set_cons_zero, List.set_cons_succ, List.getElem_toArray, List.getElem_cons_zero, List.getElem_cons_succ]
  refine AnyBut.takeE (i := 19) (v := ?_) rfl (by kernel_rfl) (by kernel_rfl) (by kernel_rfl) (by kernel_rfl) (fun _ _ _ h => h) (Or.inl ⟨by rfl, ?_⟩) hS ?_
  rotate_left
  · (intro wq hq; go_simp; try with_reducible rfl)
  try simp only [Act.put, List.setIfInBounds_toArray, List.set_cons_zero, List.set_cons_succ, List.getElem_toArray, List.getElem_cons_zero, List.getElem_cons_succ]
  refine AnyBut.takeE (i := 20) (v := ?_) rfl (by kernel_rfl) (by kernel_rfl) (by kernel_rfl) (by kernel_rfl) (fun _ _ _ h => h) (Or.inl ⟨by rfl, ?_⟩) hS ?_
  rotate_left
  · (intro wq hq; go_simp; try with_reducible rfl)
  try simp only [Act.put, List.setIfInBounds_toArray, List.set_cons_zero, List.set_cons_succ, List.getElem_toArray, List.getElem_cons_zero, List.getElem_cons_succ]
  refine AnyBut.takeE (i := 21) (v := .string (strB Lh)) rfl (by kernel_rfl) (by kernel_rfl) (by kernel_rfl) (by kernel_rfl) (fun _ _ _ h => h) (Or.inl ⟨by rfl, ?_⟩) hS ?_
  · intro wq hq
    have hc := Cp.out wq (SB.trans HX11.out hq)
    go_simp
  try simp only [Act.put, List.setIfInBounds_toArray, List.set_cons_zero, List.set_cons_succ, List.getElem_toArray, List.getElem_cons_zero, List.getElem_cons_succ]
  refine AnyBut.takeE (i := 22) (v := ?_) rfl (by kernel_rfl) (by kernel_rfl) (by kernel_rfl) (by kernel_rfl) (fun _ _ _ h => h) (Or.inl ⟨by rfl, ?_⟩) hS ?_
  rotate_left
  · (intro wq hq; go_simp; try with_reducible rfl)
  try simp only [Act.put, List.setIfInBounds_toArray, List.set_cons_zero, List.set_cons_succ, List.getElem_toArray, List.getElem_cons_zero, List.getElem_cons_succ]
  refine AnyBut.takeE (i := 23) (v := .string (strB Lg)) rfl (by kernel_rfl) (by kernel_rfl) (by kernel_rfl) (by kernel_rfl) (fun _ _ _ h => h) (Or.inl ⟨by rfl, ?_⟩) hS ?_
  · intro wq hq
    have hc := Cq.out wq (SB.trans HX11.out hq)
    go_simp
  try simp only [Act.put, List.setIfInBounds_toArray, List.set_cons_zero, List.set_cons_succ, List.getElem_toArray, List.getElem_cons_zero, List.getElem_cons_succ]
  refine AnyBut.takeE (i := 24) (v := .bool β) rfl (by kernel_rfl) (by kernel_rfl) (by kernel_rfl) (by kernel_rfl) (fun _ _ _ h => h) (Or.inl ⟨by rfl, ?_⟩) hS ?_
  · intro wq hq
    obtain ⟨hstr, hst2, heq1, heq0, hbb⟩ := HEQ.out
    go_simp
  try simp only [Act.put, List.setIfInBounds_toArray, List.set_cons_zero, List.set_cons_succ, List.getElem_toArray, List.getElem_cons_zero, List.getElem_cons_succ]
  refine AnyBut.takeE (i := 25) (v := .agg (hdV h).toArray) rfl (by kernel_rfl) (by kernel_rfl) (by kernel_rfl) (by kernel_rfl) (fun _ _ _ h => h) ?_ hS ?_
  · exact yieldsIf_load_mid (by rfl) 26 (.tmp 3) rfl (w.heap.size) 0 rfl (hdV h) _ (fun wq hq => Eh.out wq (SB.trans HX11.out hq)) Tryd.underlying26 rfl HIh.out
  try simp only [Act.put, List.setIfInBounds_toArray, List.set_cons_zero, List.set_cons_succ, List.getElem_toArray, List.getElem_cons_zero, List.getElem_cons_succ]
  refine AnyBut.takeE (i := 26) (v := .agg (hdV g).toArray) rfl (by kernel_rfl) (by kernel_rfl) (by kernel_rfl) (by kernel_rfl) (fun _ _ _ h => h) ?_ hS ?_
  · exact yieldsIf_load_mid (by rfl) 26 (.tmp 4) rfl (w.heap.size + 1) 0 rfl (hdV g) _ (fun wq hq => Eg.out wq (SB.trans HX11.out hq)) Tryd.underlying26 rfl HIg.out
  try simp only [Act.put, List.setIfInBounds_toArray, List.set_cons_zero, List.set_cons_succ, List.getElem_toArray, List.getElem_cons_zero, List.getElem_cons_succ]
  refine AnyBut.takeE (i := 27) (v := .bool β) rfl (by kernel_rfl) (by kernel_rfl) (by kernel_rfl) (by kernel_rfl) (fun _ _ _ h => h) (Or.inl ⟨by rfl, ?_⟩) hS ?_
  · intro wq hq
    obtain ⟨hstr, hst2, heq1, heq0, hbb⟩ := HEQ.out
    go_simp
  try simp only [Act.put, List.setIfInBounds_toArray, List.set_cons_zero, List.set_cons_succ, List.getElem_toArray, List.getElem_cons_zero, List.getElem_cons_succ]
  refine AnyBut.takeE (i := 28) (v := .bool true) rfl (by kernel_rfl) (by kernel_rfl) (by kernel_rfl) (by kernel_rfl) (fun _ _ _ h => h) (Or.inl ⟨by rfl, ?_⟩) hS ?_
  · intro wq hq
    obtain ⟨hstr, hst2, heq1, heq0, hbb⟩ := HEQ.out
    go_simp
  try simp only [Act.put, List.setIfInBounds_toArray, List.set_cons_zero, List.set_cons_succ, List.getElem_toArray, List.getElem_cons_zero, List.getElem_cons_succ]
  refine AnyBut.takeE (i := 29) (v := ?_) rfl (by kernel_rfl) (by kernel_rfl) (by kernel_rfl) (by kernel_rfl) (fun _ _ _ h => h) (Or.inl ⟨by rfl, ?_⟩) hS ?_
  rotate_left
  · (intro wq hq; go_simp; try with_reducible rfl)
  try simp only [Act.put, List.setIfInBounds_toArray, List.set_cons_zero, List.set_cons_succ, List.getElem_toArray, List.getElem_cons_zero, List.getElem_cons_succ]
  refine AnyBut.takeE (i := 30) (v := ?_) rfl (by kernel_rfl) (by kernel_rfl) (by kernel_rfl) (by kernel_rfl) (fun _ _ _ h => h) (Or.inl ⟨by rfl, ?_⟩) hS ?_
  rotate_left
  · (intro wq hq; go_simp; try with_reducible rfl)
  try simp only [Act.put, List.setIfInBounds_toArray, List.set_cons_zero, List.set_cons_succ, List.getElem_toArray, List.getElem_cons_zero, List.getElem_cons_succ]
  refine AnyBut.takeE (i := 31) (v := .agg (hdV h).toArray) rfl (by kernel_rfl) (by kernel_rfl) (by kernel_rfl) (by kernel_rfl) (fun _ _ _ h => h) ?_ hS ?_
  · exact yieldsIf_load_mid (by rfl) 26 (.tmp 3) rfl (w.heap.size) 0 rfl (hdV h) _ (fun wq hq => Eh.out wq (SB.trans HX11.out hq)) Tryd.underlying26 rfl HIh.out
  try simp only [Act.put, List.setIfInBounds_toArray, List.set_cons_zero, List.set_cons_succ, List.getElem_toArray, List.getElem_cons_zero, List.getElem_cons_succ]
  refine AnyBut.takeE (i := 33) (v := ?_) rfl (by kernel_rfl) (by kernel_rfl) (by kernel_rfl) (by kernel_rfl) (fun _ _ _ h => h) (Or.inl ⟨by rfl, ?_⟩) hS ?_
  rotate_left
  · (intro wq hq; go_simp; try with_reducible rfl)
  try simp only [Act.put, List.setIfInBounds_toArray, List.set_cons_zero, List.set_cons_succ, List.getElem_toArray, List.getElem_cons_zero, List.getElem_cons_succ]
  refine AnyBut.gone (i := 32) (by kernel_rfl) rfl (by rfl) (fun K hK => ?_)
  go_simp
  (with_reducible refine (KIh.out _ (T0.out _ HX11.out)).mono ?_)
  rintro e w12 ⟨rfl, hb⟩
  have hS12 : SB w11 w12 := SB.next hS hb
  have HS12 := Lib.hid hS12
  have HBl12 := Lib.hid hb
  clear hb
  dsimp only
  refine hK _ _ (fun _ => hS12) ?_
  clear hK K hS
  try simp only [Act.put, List.setIfInBounds_toArray, List.set_cons_zero, List.set_cons_succ, List.getElem_toArray, List.getElem_cons_zero, List.getElem_cons_succ]
  refine AnyBut.stronger (S' := SB w12) (fun _ h => Below.trans hS12 (Below.mono h hS12.size)) ?_
  clear hS12
  have hS : SB w12 w12 := SB.refl w12
  have HX12 : Hid (SB We w12) := SB.trans HX11.out HS12.out
  refine AnyBut.gone (i := 34) (by kernel_rfl) rfl (by rfl) (fun K hK => ?_)
  go_simp
  (with_reducible refine (KT1.out _ _ _ (T0.out _ HX12.out) (Rp.out _ HX12.out) HC1.out.1).mono ?_)
  rintro e w13 ⟨rfl, hb⟩
  have hS13 : SB w12 w13 := SB.next hS hb
  have HS13 := Lib.hid hS13
  have HBl13 := Lib.hid hb
  clear hb
  dsimp only
  refine hK _ _ (fun _ => hS13) ?_
  clear hK K hS
  try simp only [Act.put, List.setIfInBounds_toArray, List.set_cons_zero, List.set_cons_succ, List.getElem_toArray, List.getElem_cons_zero, List.getElem_cons_succ]
  refine AnyBut.stronger (S' := SB w13) (fun _ h => Below.trans hS13 (Below.mono h hS13.size)) ?_
  clear hS13
  have hS : SB w13 w13 := SB.refl w13
  have HX13 : Hid (SB We w13) := SB.trans HX12.out HS13.out
  refine AnyBut.takeE (i := 35) (v := .bool true) rfl (by kernel_rfl) (by kernel_rfl) (by kernel_rfl) (by kernel_rfl) (fun _ _ _ h => h) (Or.inl ⟨by rfl, ?_⟩) hS ?_
  · intro wq hq
    have he := e24a.out wq
    go_simp
  try simp only [Act.put, List.setIfInBounds_toArray, List.set_cons_zero, List.set_cons_succ, List.getElem_toArray, List.getElem_cons_zero, List.getElem_cons_succ]
  refine AnyBut.takeE (i := 36) (v := ?_) rfl (by kernel_rfl) (by kernel_rfl) (by kernel_rfl) (by kernel_rfl) (fun _ _ _ h => h) (Or.inl ⟨by rfl, ?_⟩) hS ?_
  rotate_left
  · (intro wq hq; go_simp; try with_reducible rfl)
  try simp only [Act.put, List.setIfInBounds_toArray, List.set_cons_zero, List.set_cons_succ, List.getElem_toArray, List.getElem_cons_zero, List.getElem_cons_succ]
  refine AnyBut.takeE (i := 37) (v := ?_) rfl (by kernel_rfl) (by kernel_rfl) (by kernel_rfl) (by kernel_rfl) (fun _ _ _ h => h) (Or.inl ⟨by rfl, ?_⟩) hS ?_
  rotate_left
  · (intro wq hq; go_simp; try with_reducible rfl)
  try simp only [Act.put, List.setIfInBounds_toArray, List.set_cons_zero, List.set_cons_succ, List.getElem_toArray, List.getElem_cons_zero, List.getElem_cons_succ]
  refine AnyBut.takeE (i := 38) (v := .agg (hdV y).toArray) rfl (by kernel_rfl) (by kernel_rfl) (by kernel_rfl) (by kernel_rfl) (fun _ _ _ h => h) ?_ hS ?_
  · exact yieldsIf_load_mid (by rfl) 26 (.tmp 11) rfl (g2) 0 rfl (hdV y) _ (fun wq hq => Ey.out wq (SB.trans HX13.out hq)) Tryd.underlying26 rfl HIy.out
  try simp only [Act.put, List.setIfInBounds_toArray, List.set_cons_zero, List.set_cons_succ, List.getElem_toArray, List.getElem_cons_zero, List.getElem_cons_succ]
  refine AnyBut.takeE (i := 40) (v := .slice (some ⟨w.heap.size + 1 + 1, 0, none⟩) 80 80) rfl (by kernel_rfl) (by kernel_rfl) (by kernel_rfl) (by kernel_rfl) (fun _ _ _ h => h) (Or.inl ⟨by rfl, ?_⟩) hS ?_
  · intro wq hq
    have hsl := HSL.out wq
    go_simp
  try simp only [Act.put, List.setIfInBounds_toArray, List.set_cons_zero, List.set_cons_succ, List.getElem_toArray, List.getElem_cons_zero, List.getElem_cons_succ]
  refine AnyBut.gone (i := 39) (by kernel_rfl) rfl (by rfl) (fun K hK => ?_)
  go_simp
  (with_reducible refine (KIy.out _ (T0.out _ HX13.out)).mono ?_)
  rintro e w14 ⟨rfl, hb⟩
  have hS14 : SB w13 w14 := SB.next hS hb
  have HS14 := Lib.hid hS14
  have HBl14 := Lib.hid hb
  clear hb
  dsimp only
  refine hK _ _ (fun _ => hS14) ?_
  clear hK K hS
  try simp only [Act.put, List.setIfInBounds_toArray, List.set_cons_zero, List.set_cons_succ, List.getElem_toArray, List.getElem_cons_zero, List.getElem_cons_succ]
  refine AnyBut.stronger (S' := SB w14) (fun _ h => Below.trans hS14 (Below.mono h hS14.size)) ?_
  clear hS14
  have hS : SB w14 w14 := SB.refl w14
  have HX14 : Hid (SB We w14) := SB.trans HX13.out HS14.out
  refine AnyBut.gone (i := 41) (by kernel_rfl) rfl (by rfl) (fun K hK => ?_)
  go_simp
  (with_reducible refine (KT2.out _ _ _ (T0.out _ HX14.out) (Rr.out _ HX14.out) (Nat.le_refl _)).mono ?_)
  rintro e w15 ⟨rfl, hb⟩
  have hS15 : SB w14 w15 := SB.next hS hb
  have HS15 := Lib.hid hS15
  have HBl15 := Lib.hid hb
  clear hb
  dsimp only
  refine hK _ _ (fun _ => hS15) ?_
  clear hK K hS
  try simp only [Act.put, List.setIfInBounds_toArray, List.set_cons_zero, List.set_cons_succ, List.getElem_toArray, List.getElem_cons_zero, List.getElem_cons_succ]
  refine AnyBut.stronger (S' := SB w15) (fun _ h => Below.trans hS15 (Below.mono h hS15.size)) ?_
  clear hS15
  have hS : SB w15 w15 := SB.refl w15
  have HX15 : Hid (SB We w15) := SB.trans HX14.out HS15.out
  refine AnyBut.takeE (i := 42) (v := .bool true) rfl (by kernel_rfl) (by kernel_rfl) (by kernel_rfl) (by kernel_rfl) (fun _ _ _ h => h) (Or.inl ⟨by rfl, ?_⟩) hS ?_
  · intro wq hq
    have he := e24b.out wq
    go_simp
  try simp only [Act.put, List.setIfInBounds_toArray, List.set_cons_zero, List.set_cons_succ, List.getElem_toArray, List.getElem_cons_zero, List.getElem_cons_succ]
  refine AnyBut.takeE (i := 43) (v := ?_) rfl (by kernel_rfl) (by kernel_rfl) (by kernel_rfl) (by kernel_rfl) (fun _ _ _ h => h) (Or.inl ⟨by rfl, ?_⟩) hS ?_
  rotate_left
  · (intro wq hq; go_simp; try with_reducible rfl)
  try simp only [Act.put, List.setIfInBounds_toArray, List.set_cons_zero, List.set_cons_succ, List.getElem_toArray, List.getElem_cons_zero, List.getElem_cons_succ]
  refine AnyBut.takeE (i := 44) (v := ?_) rfl (by kernel_rfl) (by kernel_rfl) (by kernel_rfl) (by kernel_rfl) (fun _ _ _ h => h) (Or.inl ⟨by rfl, ?_⟩) hS ?_
  rotate_left
  · (intro wq hq; go_simp; try with_reducible rfl)
  try simp only [Act.put, List.setIfInBounds_toArray, List.set_cons_zero, List.set_cons_succ, List.getElem_toArray, List.getElem_cons_zero, List.getElem_cons_succ]
  refine AnyBut.gone (i := 45) (by kernel_rfl) rfl (by rfl) (fun K hK => ?_)
  go_simp
  (with_reducible refine (KW.out _ (T0.out _ HX15.out)).mono ?_)
  rintro e w16 ⟨rfl, hb⟩
  have hS16 : SB w15 w16 := SB.next hS hb
  have HS16 := Lib.hid hS16
  have HBl16 := Lib.hid hb
  clear hb
  dsimp only
  refine hK _ _ (fun _ => hS16) ?_
  clear hK K hS
  try simp only [Act.put, List.setIfInBounds_toArray, List.set_cons_zero, List.set_cons_succ, List.getElem_toArray, List.getElem_cons_zero, List.getElem_cons_succ]
  refine AnyBut.stronger (S' := SB w16) (fun _ h => Below.trans hS16 (Below.mono h hS16.size)) ?_
  clear hS16
  have hS : SB w16 w16 := SB.refl w16
  have HX16 : Hid (SB We w16) := SB.trans HX15.out HS16.out
  refine AnyBut.takeE (i := 46) (v := ?_) rfl (by kernel_rfl) (by kernel_rfl) (by kernel_rfl) (by kernel_rfl) (fun _ _ _ h => h) (Or.inl ⟨by rfl, ?_⟩) hS ?_
  rotate_left
  · (intro wq hq; go_simp; try with_reducible rfl)
  try simp only [Act.put, List.setIfInBounds_toArray, List.set_cons_zero, List.set_cons_succ, List.getElem_toArray, List.getElem_cons_zero, List.getElem_cons_succ]
  refine AnyBut.gone (i := 47) (by kernel_rfl) rfl (by rfl) (fun K hK => ?_)
  go_simp
  refine hK _ _ (fun _ => hS) ?_
  clear hK K
  refine AnyBut.done (by kernel_rfl) ?_ _
  try dsimp only [Exit.then]
  clear hS
  go_wp2_with fail
  go_ret
  exact ⟨rfl, HBe.out.trans (Below.mono HX16.out HBe.out.size)⟩
end Go.Proofs.YtefiacnpbkancaaDoor
