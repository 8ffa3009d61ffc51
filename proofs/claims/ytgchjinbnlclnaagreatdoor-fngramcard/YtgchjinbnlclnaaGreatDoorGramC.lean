/-
  The law FnGram, walked, whatever the two rows of bytes: it tells true. Conditions: the two tables and the four errors lie in their variables.
-/
import Derived.Test.YtgchjinbnlclnaaGreatDoorGramQ
import Derived.Test.YtgchjinbnlclnaaGreatDoorMg13
import Derived.Test.YtgchjinbnlclnaaGreatDoorDrawGram2
import Derived.Test.YtgchjinbnlclnaaGreatDoorGramLd
import Derived.Deep.RegionHeld3
namespace Go.Proofs.YtgchjinbnlclnaaGreatDoor.gm
open Go.ChangeShapes Go.WideShapes Go.ChangeAt Go.RowKit
open Go.Proofs.YtgchjinbnlclnaaGreatDoor.wi (RightG gramI_any gramM_any heap_lt wp_w calls_w is_any)
open Go.Proofs.YtgchjinbnlclnaaGreatDoor.np (getV numV)
open Go.Proofs.YtgchjinbnlclnaaGreatDoor.dr (Codes)
open Classical
set_option linter.unusedVariables false
set_option linter.unusedSimpArgs false

theorem toList_data' (b : ByteArray) : b.toList = b.data.toList := ByteArray.toList_eq b
theorem empty_beq' {X : ByteArray} (h : ¬ X = ⟨#[]⟩) : (X.toList == ([] : List UInt8)) = false := by
  rw [beq_eq_false_iff_ne]
  intro he
  apply h
  rw [toList_data'] at he
  cases X with
  | mk d => cases d with
    | mk l => simp_all
/-- what is known: the two grams' blocks -/
structure InF (w : World) (q1 : Nat) (s e c : Int) (b : ByteArray) (u : World) : Prop where
  below : Below w.heap.size w u
  gram : u.heap[q1]? = some (.cells #[.int .i64 s, .int .i64 e, .int .i64 c, .string b] 24 (0, 0))
theorem InF.up {w u u' : World} {q1 : Nat} {s e c : Int} {b : ByteArray} (h : InF w q1 s e c b u) (hb : Below u.heap.size u u') : InF w q1 s e c b u' := ⟨h.below.trans (hb.mono h.below.size), (hb.block _ (heap_lt h.gram)).trans h.gram⟩

structure InH (w : World) (q1 : Nat) (s e c : Int) (b : ByteArray) (q2 : Nat) (s' e' c' : Int) (b' : ByteArray) (u : World) : Prop where
  one : InF w q1 s e c b u
  gram : u.heap[q2]? = some (.cells #[.int .i64 s', .int .i64 e', .int .i64 c', .string b'] 24 (0, 0))
theorem InH.up {w u u' : World} {q1 : Nat} {s e c : Int} {b : ByteArray} {q2 : Nat} {s' e' c' : Int} {b' : ByteArray} (h : InH w q1 s e c b q2 s' e' c' b' u) (hb : Below u.heap.size u u') : InH w q1 s e c b q2 s' e' c' b' u' := ⟨h.one.up hb, (hb.block _ (heap_lt h.gram)).trans h.gram⟩
theorem InH.drew {w u : World} {q1 : Nat} {s e c : Int} {b : ByteArray} {q2 : Nat} {s' e' c' : Int} {b' : ByteArray} (h : InH w q1 s e c b q2 s' e' c' b' u) : InH w q1 s e c b q2 s' e' c' b' u.drew := ⟨⟨h.one.below.drew, h.one.gram⟩, h.gram⟩
theorem InH.cells {w u : World} {q1 : Nat} {s e c : Int} {b : ByteArray} {q2 : Nat} {s' e' c' : Int} {b' : ByteArray} (h : InH w q1 s e c b q2 s' e' c' b' u) :
    (u.cell? ⟨q1, 0, none⟩ = some (.int .i64 s) ∧ u.cell? ⟨q1, 1, none⟩ = some (.int .i64 e) ∧ u.cell? ⟨q1, 2, none⟩ = some (.int .i64 c) ∧ u.cell? ⟨q1, 3, none⟩ = some (.string b)) ∧ (u.cell? ⟨q2, 0, none⟩ = some (.int .i64 s') ∧ u.cell? ⟨q2, 1, none⟩ = some (.int .i64 e') ∧ u.cell? ⟨q2, 2, none⟩ = some (.int .i64 c') ∧ u.cell? ⟨q2, 3, none⟩ = some (.string b')) := by
  refine ⟨⟨?_, ?_, ?_, ?_⟩, ⟨?_, ?_, ?_, ?_⟩⟩ <;> simp [World.cell?, h.one.gram, h.gram]

set_option maxRecDepth 20000 in
set_option maxHeartbeats 8000000 in
theorem gramCore (a0 : Option Addr) (len0 cap0 : Nat) (a1 : Option Addr) (len1 cap1 : Nat) (w : World) (c0 : Codes w w.heap.size a0 len0) (c1 : Codes w w.heap.size a1 len1) (hg : eg.Met w) :
    Calls Tryz.prog 3 #[.slice a0 len0 cap0, .slice a1 len1 cap1] w fun e w' => e = .returned (.bool true) ∧ Below w.heap.size w w' := by
  obtain ⟨⟨a1', a2', a3', a4', hE⟩, hT⟩ := hg
  have HE : Hid (∀ u, Below w.heap.size w u → ei.Errs u a1' a2' a3' a4') := fun u hu => hE.up hu
  have HT : Hid (∀ u, Below w.heap.size w u → cc.Both u) := fun u hu => hT.up hu
  have HC1 : Hid (∀ u, Below w.heap.size w u → Codes u u.heap.size a1 len1) := fun u hu => db.codes_later c1 hu
  have l0 := c0.1
  have l1 := c1.1
  clear hE hT c1
  go_enter Tryz.func3, Tryz.ntmps3
  go_wp2_with (go_at_call 4; fail)
  refine (db.drawGramSeal_any a0 len0 cap0 w c0).mono ?_
  rintro r w1 ⟨key, s, e, c, b, rfl, hk, hb, hb1⟩
  clear c0
  have hkm : key.size ≤ maxLen := Nat.le_trans hk (by decide)
  have hbm : b.size ≤ maxLen := Nat.le_trans hb (by decide)
  go_wp2_with (go_at_call 5; fail)
  have i2 : InF w w1.heap.size s e c b (w1.alloc (.cells #[.int .i64 s, .int .i64 e, .int .i64 c, .string b] 24)) := ⟨hb1.alloc hb1.size _, heap_alloc_new _ _⟩
  obtain ⟨q1, hq1⟩ : ∃ q, q = w1.heap.size := ⟨_, rfl⟩
  rw [← hq1] at i2 ⊢
  refine calls_w (InF w q1 s e c b) i2 ?_
  clear i2 hb1 hq1
  intro u2 i2
  refine (sealI_any key s e c b u2 hkm hbm (HT.out _ i2.below)).mono ?_
  rintro r w3 ⟨rfl, hb3⟩
  have i3 := i2.up hb3
  clear i2 hb3
  go_wp2_with (go_at_call 6; fail)
  refine (db.drawGramOpen_any a1 len1 cap1 w3 (HC1.out _ i3.below)).mono ?_
  rintro r w4 ⟨k, x, rfl, hk2, hx, hb4⟩
  have i4 := i3.up hb4
  clear i3 hb4
  go_wp2_with (go_at_call 7; fail)
  refine (db.drawGramRight_any a1 len1 cap1 w4 (HC1.out _ i4.below)).mono ?_
  rintro r w5 ⟨s', e', c', b', rfl, hb', hb5⟩
  have i5 := i4.up hb5
  clear i4 hb5 HC1
  have i6 : InH w q1 s e c b w5.heap.size s' e' c' b' (w5.alloc (.cells #[.int .i64 s', .int .i64 e', .int .i64 c', .string b'] 24)) := ⟨i5.up ((Below.refl _ _).alloc (Nat.le_refl _) _), heap_alloc_new _ _⟩
  go_wp2_with fail
  obtain ⟨q2, hq2⟩ : ∃ q, q = w5.heap.size := ⟨_, rfl⟩
  rw [← hq2] at i6 ⊢
  refine wp_w (InH w q1 s e c b q2 s' e' c' b') i6 ?_
  clear i6 i5 hq2
  intro u6 i6
  have HSM0 := fun u => sealM_any key s e c b u hkm hbm
  have HOI0 := fun u (hu : Below w.heap.size w u) => openI_any k x u (Nat.le_trans hk2 (by decide)) (Nat.le_trans hx (by decide)) (HE.out _ hu) (HT.out _ hu)
  have HOM0 := fun u => openM_any k x u (Nat.le_trans hk2 (by decide)) (Nat.le_trans hx (by decide))
  have hbm' : b'.size ≤ maxLen := Nat.le_trans hb' (by decide)
  have HGI0 := fun u => gramI_any s' e' c' b' u hbm'
  have HGM0 := fun u => gramM_any s' e' c' b' u hbm'
  have HS2 : Hid (∀ u, Below w.heap.size w u → Calls Tryz.prog 5 #[.string key, .agg #[.int .i64 s', .int .i64 e', .int .i64 c', .string b']] u fun r w' => r = .returned (.string (sealG key s' e' c' b')) ∧ Below u.heap.size u w') := fun u hu => sealI_any key s' e' c' b' u hkm hbm' (HT.out _ hu)
  obtain ⟨s1, e1, c1, b1, k1, hA⟩ : ∃ s1 e1 c1 b1 k1, openG k x = ((s1, e1, c1, b1), k1) := ⟨_, _, _, _, _, rfl⟩
  rw [hA] at HOI0 HOM0
  clear hA
  obtain ⟨z, hz⟩ : ∃ z, z = decide (RightG s' e' c' b'.size) := ⟨_, rfl⟩
  rw [← hz] at HGI0 HGM0
  clear hz
  have HOI : Hid (∀ u, Below w.heap.size w u → Calls Tryz.prog 9 #[.string k, .string x] u fun r w' => r = .returned (.agg #[.int .i64 s1, .int .i64 e1, .int .i64 c1, .string b1, .int .i64 k1]) ∧ Below u.heap.size u w') := HOI0
  have HOM : Hid (∀ u, Calls Tryz.prog 10 #[.string k, .string x] u fun r w' => r = .returned (.agg #[.int .i64 s1, .int .i64 e1, .int .i64 c1, .string b1, .int .i64 k1]) ∧ Below u.heap.size u w') := HOM0
  have HGI : Hid (∀ u, Calls Tryz.prog 11 #[.agg #[.int .i64 s', .int .i64 e', .int .i64 c', .string b']] u fun r w' => r = .returned (.bool z) ∧ Below u.heap.size u w') := HGI0
  have HGM : Hid (∀ u, Calls Tryz.prog 12 #[.agg #[.int .i64 s', .int .i64 e', .int .i64 c', .string b']] u fun r w' => r = .returned (.bool z) ∧ Below u.heap.size u w') := HGM0
  clear HOI0 HOM0 HGI0 HGM0
  have hTz := db.sealG_le key s e c b
  have hTz2 := db.sealG_le key s' e' c' b'
  have HOK : Hid (KeyR key ∧ RightG s e c b.size → ∀ u, Below w.heap.size w u → Calls Tryz.prog 9 #[.string key, .string (sealG key s e c b)] u fun r w' => r = .returned (.agg #[.int .i64 s, .int .i64 e, .int .i64 c, .string b, .int .i64 0]) ∧ Below u.heap.size u w') := fun hr u hu => by
    have := openI_any key (sealG key s e c b) u hkm (Nat.le_trans hTz (by decide)) (HE.out _ hu) (HT.out _ hu)
    rw [open_sealG hr] at this
    exact this
  have HSR : Hid (sealG key s e c b ≠ ⟨#[]⟩ → KeyR key ∧ RightG s e c b.size) := sealG_right
  have HSR2 : Hid (sealG key s' e' c' b' ≠ ⟨#[]⟩ → KeyR key ∧ RightG s' e' c' b'.size) := sealG_right
  have HN1 : Hid (KeyR key ∧ RightG s e c b.size → getV (sealG key s e c b) 0 = (numG s e c, ((pn.numB (numG s e c)).size : Int), 0)) := seal_num
  have HN2 : Hid (KeyR key ∧ RightG s' e' c' b'.size → getV (sealG key s' e' c' b') 0 = (numG s' e' c', ((pn.numB (numG s' e' c')).size : Int), 0)) := seal_num
  obtain ⟨T, hT⟩ : ∃ T, T = sealG key s e c b := ⟨_, rfl⟩
  rw [← hT] at hTz HOK HSR HN1 HSM0 ⊢
  obtain ⟨T2, hT2⟩ : ∃ T2, T2 = sealG key s' e' c' b' := ⟨_, rfl⟩
  rw [← hT2] at hTz2 HSR2 HN2 HS2
  have HSM : Hid (∀ u, Calls Tryz.prog 8 #[.string key, .agg #[.int .i64 s, .int .i64 e, .int .i64 c, .string b]] u fun r w' => r = .returned (.string T) ∧ Below u.heap.size u w') := HSM0
  clear hT hT2 HSM0 HE HT
  have i60 := i6
  replace i6 := i6.drew
  have q00 : (T.toList == T.toList) = true := by simp
  by_cases hTT : T = ⟨#[]⟩
  · have q01 : (T.toList == ([] : List UInt8)) = true := by rw [hTT, toList_data']; rfl
    clear HSR HSR2 HN1 HN2
    refine wp_region_noPanic ?_
    refine wp_region_held_drew (S := fun u => (u.cell? ⟨q1, 0, none⟩ = some (.int .i64 s) ∧ u.cell? ⟨q1, 1, none⟩ = some (.int .i64 e) ∧ u.cell? ⟨q1, 2, none⟩ = some (.int .i64 c) ∧ u.cell? ⟨q1, 3, none⟩ = some (.string b)) ∧ (u.cell? ⟨q2, 0, none⟩ = some (.int .i64 s') ∧ u.cell? ⟨q2, 1, none⟩ = some (.int .i64 e') ∧ u.cell? ⟨q2, 2, none⟩ = some (.int .i64 c') ∧ u.cell? ⟨q2, 3, none⟩ = some (.string b'))) (by kernel_rfl) i60.cells (fun hHeld => ?_)
    refine wpAnyH_take (i := 0) (oi := { dst := some 35, op := Op.move (Operand.tmp 7), type := 9, pos := "laws.go:141", after := #[], guard := none }) (v := ?_) rfl (by kernel_rfl) (by kernel_rfl) (by kernel_rfl) (fun _ _ _ h => h) (Or.inl ⟨by rfl, ?_⟩) hHeld ?_
    rotate_left
    · rintro w ⟨⟨z0, z1, z2, z3⟩, ⟨y0, y1, y2, y3⟩⟩; go_simp; try with_reducible rfl
    try simp only [Act.put, List.setIfInBounds_toArray, List.set_cons_zero, List.set_cons_succ]
    refine wpAnyH_take (i := 1) (oi := { dst := some 36, op := Op.move (Operand.tmp 5), type := 9, pos := "laws.go:141", after := #[], guard := none }) (v := ?_) rfl (by kernel_rfl) (by kernel_rfl) (by kernel_rfl) (fun _ _ _ h => h) (Or.inl ⟨by rfl, ?_⟩) hHeld ?_
    rotate_left
    · rintro w ⟨⟨z0, z1, z2, z3⟩, ⟨y0, y1, y2, y3⟩⟩; go_simp; try with_reducible rfl
    try simp only [Act.put, List.setIfInBounds_toArray, List.set_cons_zero, List.set_cons_succ]
    refine wpAnyH_take (i := 2) (oi := { dst := some 37, op := Op.load 24 (Operand.tmp 6), type := 24, pos := "laws.go:141", after := #[], guard := none }) (v := ?_) rfl (by kernel_rfl) (by kernel_rfl) (by kernel_rfl) (fun _ _ _ h => h) (Or.inl ⟨by rfl, ?_⟩) hHeld ?_
    rotate_left
    · rintro w ⟨⟨z0, z1, z2, z3⟩, ⟨y0, y1, y2, y3⟩⟩; go_simp; try with_reducible rfl
    try simp only [Act.put, List.setIfInBounds_toArray, List.set_cons_zero, List.set_cons_succ]
    refine wpAnyH_ready (rs := [3]) (by kernel_rfl) (by simp) ?_
    refine AllReadyH.cons rfl (fun K hK => ?_) AllReadyH.nil
    go_simp
    go_at_call 8
    refine (HSM.out _).mono ?_
    rintro r w7 ⟨rfl, hb7⟩
    replace i6 := i6.up hb7
    go_wp2_with fail
    refine hK.out _ _ i6.cells (fun hHeld => ?_)
    clear hb7
    clear hK K
    try simp only [Act.put, List.setIfInBounds_toArray, List.set_cons_zero, List.set_cons_succ]
    refine wpAnyH_take (i := 4) (oi := { dst := some 39, op := Op.binOp BinOp.neq 9 (Operand.tmp 35) (Operand.tmp 38) 9, type := 4, pos := "laws.go:141", after := #[{ on := 0, ground := Ground.data }, { on := 3, ground := Ground.data }], guard := none }) (v := .bool false) rfl (by kernel_rfl) (by kernel_rfl) (by kernel_rfl) (fun _ _ _ h => h) (Or.inl ⟨by rfl, ?_⟩) hHeld ?_
    · rintro w ⟨⟨z0, z1, z2, z3⟩, ⟨y0, y1, y2, y3⟩⟩; go_simp; try with_reducible rfl
    try simp only [Act.put, List.setIfInBounds_toArray, List.set_cons_zero, List.set_cons_succ]
    refine wpAnyH_take (i := 5) (oi := { dst := some 40, op := Op.move (Operand.tmp 39), type := 4, pos := "laws.go:141", after := #[{ on := 4, ground := Ground.data }, { on := 3, ground := Ground.chain }], guard := none }) (v := .bool false) rfl (by kernel_rfl) (by kernel_rfl) (by kernel_rfl) (fun _ _ _ h => h) (Or.inl ⟨by rfl, ?_⟩) hHeld ?_
    · rintro w ⟨⟨z0, z1, z2, z3⟩, ⟨y0, y1, y2, y3⟩⟩; go_simp; try with_reducible rfl
    try simp only [Act.put, List.setIfInBounds_toArray, List.set_cons_zero, List.set_cons_succ]
    refine wpAnyH_take (i := 6) (oi := { dst := some 41, op := Op.move (Operand.tmp 8), type := 9, pos := "laws.go:141", after := #[{ on := 5, ground := Ground.guard }], guard := some (5, false) }) (v := ?_) rfl (by kernel_rfl) (by kernel_rfl) (by kernel_rfl) (fun _ _ _ h => h) (Or.inl ⟨by rfl, ?_⟩) hHeld ?_
    rotate_left
    · rintro w ⟨⟨z0, z1, z2, z3⟩, ⟨y0, y1, y2, y3⟩⟩; go_simp; try with_reducible rfl
    try simp only [Act.put, List.setIfInBounds_toArray, List.set_cons_zero, List.set_cons_succ]
    refine wpAnyH_take (i := 7) (oi := { dst := some 42, op := Op.move (Operand.tmp 9), type := 9, pos := "laws.go:141", after := #[{ on := 5, ground := Ground.guard }], guard := some (5, false) }) (v := ?_) rfl (by kernel_rfl) (by kernel_rfl) (by kernel_rfl) (fun _ _ _ h => h) (Or.inl ⟨by rfl, ?_⟩) hHeld ?_
    rotate_left
    · rintro w ⟨⟨z0, z1, z2, z3⟩, ⟨y0, y1, y2, y3⟩⟩; go_simp; try with_reducible rfl
    try simp only [Act.put, List.setIfInBounds_toArray, List.set_cons_zero, List.set_cons_succ]
    refine wpAnyH_take (i := 9) (oi := { dst := some 44, op := Op.move (Operand.tmp 8), type := 9, pos := "laws.go:141", after := #[{ on := 5, ground := Ground.guard }], guard := some (5, false) }) (v := ?_) rfl (by kernel_rfl) (by kernel_rfl) (by kernel_rfl) (fun _ _ _ h => h) (Or.inl ⟨by rfl, ?_⟩) hHeld ?_
    rotate_left
    · rintro w ⟨⟨z0, z1, z2, z3⟩, ⟨y0, y1, y2, y3⟩⟩; go_simp; try with_reducible rfl
    try simp only [Act.put, List.setIfInBounds_toArray, List.set_cons_zero, List.set_cons_succ]
    refine wpAnyH_take (i := 10) (oi := { dst := some 45, op := Op.move (Operand.tmp 9), type := 9, pos := "laws.go:141", after := #[{ on := 5, ground := Ground.guard }], guard := some (5, false) }) (v := ?_) rfl (by kernel_rfl) (by kernel_rfl) (by kernel_rfl) (fun _ _ _ h => h) (Or.inl ⟨by rfl, ?_⟩) hHeld ?_
    rotate_left
    · rintro w ⟨⟨z0, z1, z2, z3⟩, ⟨y0, y1, y2, y3⟩⟩; go_simp; try with_reducible rfl
    try simp only [Act.put, List.setIfInBounds_toArray, List.set_cons_zero, List.set_cons_succ]
    refine wpAnyH_ready (rs := [8]) (by kernel_rfl) (by simp) ?_
    refine AllReadyH.cons rfl (fun K hK => ?_) AllReadyH.nil
    go_simp
    go_at_call 9
    refine (HOI.out _ i6.one.below).mono ?_
    rintro r w8 ⟨rfl, hb8⟩
    replace i6 := i6.up hb8
    go_wp2_with fail
    refine hK.out _ _ i6.cells (fun hHeld => ?_)
    clear hb8
    clear hK K
    try simp only [Act.put, List.setIfInBounds_toArray, List.set_cons_zero, List.set_cons_succ]
    refine wpAnyH_ready (rs := [11]) (by kernel_rfl) (by simp) ?_
    refine AllReadyH.cons rfl (fun K hK => ?_) AllReadyH.nil
    go_simp
    go_at_call 10
    refine (HOM.out _).mono ?_
    rintro r w9 ⟨rfl, hb9⟩
    replace i6 := i6.up hb9
    go_wp2_with fail
    refine hK.out _ _ i6.cells (fun hHeld => ?_)
    clear hb9
    clear hK K
    try simp only [Act.put, List.setIfInBounds_toArray, List.set_cons_zero, List.set_cons_succ]
    refine wpAnyH_take (i := 12) (oi := { dst := some 47, op := Op.binOp BinOp.neq 32 (Operand.tmp 43) (Operand.tmp 46) 32, type := 4, pos := "laws.go:141", after := #[{ on := 8, ground := Ground.data }, { on := 11, ground := Ground.data }, { on := 5, ground := Ground.guard }], guard := some (5, false) }) (v := .bool false) rfl (by kernel_rfl) (by kernel_rfl) (by kernel_rfl) (fun _ _ _ h => h) (Or.inl ⟨by rfl, ?_⟩) hHeld ?_
    · rintro w ⟨⟨z0, z1, z2, z3⟩, ⟨y0, y1, y2, y3⟩⟩; go_simp; try with_reducible rfl
    try simp only [Act.put, List.setIfInBounds_toArray, List.set_cons_zero, List.set_cons_succ]
    refine wpAnyH_take (i := 13) (oi := { dst := some 48, op := Op.pick (Operand.tmp 40) (Operand.const (Value.bool true)) (Operand.tmp 47), type := 4, pos := "laws.go:141", after := #[{ on := 5, ground := Ground.data }, { on := 12, ground := Ground.data }], guard := none }) (v := .bool false) rfl (by kernel_rfl) (by kernel_rfl) (by kernel_rfl) (fun _ _ _ h => h) (Or.inl ⟨by rfl, ?_⟩) hHeld ?_
    · rintro w ⟨⟨z0, z1, z2, z3⟩, ⟨y0, y1, y2, y3⟩⟩; go_simp; try with_reducible rfl
    try simp only [Act.put, List.setIfInBounds_toArray, List.set_cons_zero, List.set_cons_succ]
    refine wpAnyH_take (i := 14) (oi := { dst := some 49, op := Op.move (Operand.tmp 48), type := 4, pos := "laws.go:141", after := #[{ on := 13, ground := Ground.data }, { on := 11, ground := Ground.chain }], guard := none }) (v := .bool false) rfl (by kernel_rfl) (by kernel_rfl) (by kernel_rfl) (fun _ _ _ h => h) (Or.inl ⟨by rfl, ?_⟩) hHeld ?_
    · rintro w ⟨⟨z0, z1, z2, z3⟩, ⟨y0, y1, y2, y3⟩⟩; go_simp; try with_reducible rfl
    try simp only [Act.put, List.setIfInBounds_toArray, List.set_cons_zero, List.set_cons_succ]
    refine wpAnyH_take (i := 15) (oi := { dst := some 50, op := Op.load 24 (Operand.tmp 10), type := 24, pos := "laws.go:141", after := #[{ on := 14, ground := Ground.guard }], guard := some (14, false) }) (v := ?_) rfl (by kernel_rfl) (by kernel_rfl) (by kernel_rfl) (fun _ _ _ h => h) (Or.inl ⟨by rfl, ?_⟩) hHeld ?_
    rotate_left
    · rintro w ⟨⟨z0, z1, z2, z3⟩, ⟨y0, y1, y2, y3⟩⟩; go_simp; try with_reducible rfl
    try simp only [Act.put, List.setIfInBounds_toArray, List.set_cons_zero, List.set_cons_succ]
    refine wpAnyH_take (i := 17) (oi := { dst := some 52, op := Op.load 24 (Operand.tmp 10), type := 24, pos := "laws.go:141", after := #[{ on := 14, ground := Ground.guard }], guard := some (14, false) }) (v := ?_) rfl (by kernel_rfl) (by kernel_rfl) (by kernel_rfl) (fun _ _ _ h => h) (Or.inl ⟨by rfl, ?_⟩) hHeld ?_
    rotate_left
    · rintro w ⟨⟨z0, z1, z2, z3⟩, ⟨y0, y1, y2, y3⟩⟩; go_simp; try with_reducible rfl
    try simp only [Act.put, List.setIfInBounds_toArray, List.set_cons_zero, List.set_cons_succ]
    refine wpAnyH_ready (rs := [16]) (by kernel_rfl) (by simp) ?_
    refine AllReadyH.cons rfl (fun K hK => ?_) AllReadyH.nil
    go_simp
    go_at_call 11
    refine (HGI.out _).mono ?_
    rintro r w10 ⟨rfl, hb10⟩
    replace i6 := i6.up hb10
    go_wp2_with fail
    refine hK.out _ _ i6.cells (fun hHeld => ?_)
    clear hb10
    clear hK K
    try simp only [Act.put, List.setIfInBounds_toArray, List.set_cons_zero, List.set_cons_succ]
    refine wpAnyH_ready (rs := [18]) (by kernel_rfl) (by simp) ?_
    refine AllReadyH.cons rfl (fun K hK => ?_) AllReadyH.nil
    go_simp
    go_at_call 12
    refine (HGM.out _).mono ?_
    rintro r w11 ⟨rfl, hb11⟩
    replace i6 := i6.up hb11
    go_wp2_with fail
    refine hK.out _ _ i6.cells (fun hHeld => ?_)
    clear hb11
    clear hK K
    try simp only [Act.put, List.setIfInBounds_toArray, List.set_cons_zero, List.set_cons_succ]
    refine wpAnyH_take (i := 19) (oi := { dst := some 54, op := Op.binOp BinOp.neq 4 (Operand.tmp 51) (Operand.tmp 53) 4, type := 4, pos := "laws.go:141", after := #[{ on := 16, ground := Ground.data }, { on := 18, ground := Ground.data }, { on := 14, ground := Ground.guard }], guard := some (14, false) }) (v := .bool false) rfl (by kernel_rfl) (by kernel_rfl) (by kernel_rfl) (fun _ _ _ h => h) (Or.inl ⟨by rfl, ?_⟩) hHeld ?_
    · rintro w ⟨⟨z0, z1, z2, z3⟩, ⟨y0, y1, y2, y3⟩⟩; go_simp; try with_reducible rfl
    try simp only [Act.put, List.setIfInBounds_toArray, List.set_cons_zero, List.set_cons_succ]
    refine wpAnyH_take (i := 20) (oi := { dst := some 55, op := Op.pick (Operand.tmp 49) (Operand.const (Value.bool true)) (Operand.tmp 54), type := 4, pos := "laws.go:141", after := #[{ on := 14, ground := Ground.data }, { on := 19, ground := Ground.data }], guard := none }) (v := .bool false) rfl (by kernel_rfl) (by kernel_rfl) (by kernel_rfl) (fun _ _ _ h => h) (Or.inl ⟨by rfl, ?_⟩) hHeld ?_
    · rintro w ⟨⟨z0, z1, z2, z3⟩, ⟨y0, y1, y2, y3⟩⟩; go_simp; try with_reducible rfl
    try simp only [Act.put, List.setIfInBounds_toArray, List.set_cons_zero, List.set_cons_succ]
    refine wpAnyH_take (i := 21) (oi := { dst := some 56, op := Op.move (Operand.tmp 55), type := 4, pos := "laws.go:141", after := #[{ on := 20, ground := Ground.data }, { on := 18, ground := Ground.chain }], guard := none }) (v := .bool false) rfl (by kernel_rfl) (by kernel_rfl) (by kernel_rfl) (fun _ _ _ h => h) (Or.inl ⟨by rfl, ?_⟩) hHeld ?_
    · rintro w ⟨⟨z0, z1, z2, z3⟩, ⟨y0, y1, y2, y3⟩⟩; go_simp; try with_reducible rfl
    try simp only [Act.put, List.setIfInBounds_toArray, List.set_cons_zero, List.set_cons_succ]
    refine wpAnyH_take (i := 22) (oi := { dst := some 57, op := Op.move (Operand.tmp 7), type := 9, pos := "laws.go:141", after := #[{ on := 21, ground := Ground.guard }], guard := some (21, false) }) (v := ?_) rfl (by kernel_rfl) (by kernel_rfl) (by kernel_rfl) (fun _ _ _ h => h) (Or.inl ⟨by rfl, ?_⟩) hHeld ?_
    rotate_left
    · rintro w ⟨⟨z0, z1, z2, z3⟩, ⟨y0, y1, y2, y3⟩⟩; go_simp; try with_reducible rfl
    try simp only [Act.put, List.setIfInBounds_toArray, List.set_cons_zero, List.set_cons_succ]
    refine wpAnyH_take (i := 23) (oi := { dst := some 58, op := Op.binOp BinOp.neq 9 (Operand.tmp 57) (Operand.const (Value.string { data := #[] })) 9, type := 4, pos := "laws.go:141", after := #[{ on := 22, ground := Ground.data }, { on := 21, ground := Ground.guard }], guard := some (21, false) }) (v := .bool false) rfl (by kernel_rfl) (by kernel_rfl) (by kernel_rfl) (fun _ _ _ h => h) (Or.inl ⟨by rfl, ?_⟩) hHeld ?_
    · rintro w ⟨⟨z0, z1, z2, z3⟩, ⟨y0, y1, y2, y3⟩⟩; go_simp; try with_reducible rfl
    try simp only [Act.put, List.setIfInBounds_toArray, List.set_cons_zero, List.set_cons_succ]
    refine wpAnyH_take (i := 24) (oi := { dst := some 59, op := Op.move (Operand.tmp 58), type := 4, pos := "laws.go:141", after := #[{ on := 23, ground := Ground.data }, { on := 21, ground := Ground.chain }, { on := 21, ground := Ground.guard }], guard := some (21, false) }) (v := .bool false) rfl (by kernel_rfl) (by kernel_rfl) (by kernel_rfl) (fun _ _ _ h => h) (Or.inl ⟨by rfl, ?_⟩) hHeld ?_
    · rintro w ⟨⟨z0, z1, z2, z3⟩, ⟨y0, y1, y2, y3⟩⟩; go_simp; try with_reducible rfl
    try simp only [Act.put, List.setIfInBounds_toArray, List.set_cons_zero, List.set_cons_succ]
    refine wpAnyH_take (i := 25) (oi := { dst := some 60, op := Op.move (Operand.tmp 5), type := 9, pos := "laws.go:141", after := #[{ on := 24, ground := Ground.guard }], guard := some (24, true) }) (v := undef) rfl (by kernel_rfl) (by kernel_rfl) (by kernel_rfl) (fun _ _ _ h => h) (Or.inr ⟨by rfl, rfl⟩) hHeld ?_
    try simp only [Act.put, List.setIfInBounds_toArray, List.set_cons_zero, List.set_cons_succ]
    refine wpAnyH_take (i := 26) (oi := { dst := some 61, op := Op.move (Operand.tmp 7), type := 9, pos := "laws.go:141", after := #[{ on := 24, ground := Ground.guard }], guard := some (24, true) }) (v := undef) rfl (by kernel_rfl) (by kernel_rfl) (by kernel_rfl) (fun _ _ _ h => h) (Or.inr ⟨by rfl, rfl⟩) hHeld ?_
    try simp only [Act.put, List.setIfInBounds_toArray, List.set_cons_zero, List.set_cons_succ]
    refine wpAnyH_take (i := 27) (oi := { dst := some 62, op := Op.call { callee := Callee.value (Operand.func 9), args := #[Operand.tmp 60, Operand.tmp 61], argTypes := #[9, 9] }, type := 32, pos := "laws.go:141", after := #[{ on := 25, ground := Ground.data }, { on := 26, ground := Ground.data }, { on := 24, ground := Ground.chain }, { on := 24, ground := Ground.guard }], guard := some (24, true) }) (v := undef) rfl (by kernel_rfl) (by kernel_rfl) (by kernel_rfl) (fun _ _ _ h => h) (Or.inr ⟨by rfl, rfl⟩) hHeld ?_
    try simp only [Act.put, List.setIfInBounds_toArray, List.set_cons_zero, List.set_cons_succ]
    refine wpAnyH_take (i := 28) (oi := { dst := some 63, op := Op.load 24 (Operand.tmp 6), type := 24, pos := "laws.go:141", after := #[{ on := 24, ground := Ground.guard }], guard := some (24, true) }) (v := undef) rfl (by kernel_rfl) (by kernel_rfl) (by kernel_rfl) (fun _ _ _ h => h) (Or.inr ⟨by rfl, rfl⟩) hHeld ?_
    try simp only [Act.put, List.setIfInBounds_toArray, List.set_cons_zero, List.set_cons_succ]
    refine wpAnyH_take (i := 29) (oi := { dst := some 64, op := Op.build 32 #[(0, Operand.tmp 63)], type := 32, pos := "laws.go:141", after := #[{ on := 28, ground := Ground.data }, { on := 24, ground := Ground.guard }], guard := some (24, true) }) (v := undef) rfl (by kernel_rfl) (by kernel_rfl) (by kernel_rfl) (fun _ _ _ h => h) (Or.inr ⟨by rfl, rfl⟩) hHeld ?_
    try simp only [Act.put, List.setIfInBounds_toArray, List.set_cons_zero, List.set_cons_succ]
    refine wpAnyH_take (i := 30) (oi := { dst := some 65, op := Op.binOp BinOp.neq 32 (Operand.tmp 62) (Operand.tmp 64) 32, type := 4, pos := "laws.go:141", after := #[{ on := 27, ground := Ground.data }, { on := 29, ground := Ground.data }, { on := 24, ground := Ground.guard }], guard := some (24, true) }) (v := undef) rfl (by kernel_rfl) (by kernel_rfl) (by kernel_rfl) (fun _ _ _ h => h) (Or.inr ⟨by rfl, rfl⟩) hHeld ?_
    try simp only [Act.put, List.setIfInBounds_toArray, List.set_cons_zero, List.set_cons_succ]
    refine wpAnyH_take (i := 31) (oi := { dst := some 66, op := Op.pick (Operand.tmp 59) (Operand.tmp 65) (Operand.const (Value.bool false)), type := 4, pos := "laws.go:141", after := #[{ on := 24, ground := Ground.data }, { on := 30, ground := Ground.data }, { on := 21, ground := Ground.guard }], guard := some (21, false) }) (v := .bool false) rfl (by kernel_rfl) (by kernel_rfl) (by kernel_rfl) (fun _ _ _ h => h) (Or.inl ⟨by rfl, ?_⟩) hHeld ?_
    · rintro w ⟨⟨z0, z1, z2, z3⟩, ⟨y0, y1, y2, y3⟩⟩; go_simp; try with_reducible rfl
    try simp only [Act.put, List.setIfInBounds_toArray, List.set_cons_zero, List.set_cons_succ]
    refine wpAnyH_take (i := 32) (oi := { dst := some 67, op := Op.pick (Operand.tmp 56) (Operand.const (Value.bool true)) (Operand.tmp 66), type := 4, pos := "laws.go:141", after := #[{ on := 21, ground := Ground.data }, { on := 31, ground := Ground.data }], guard := none }) (v := .bool false) rfl (by kernel_rfl) (by kernel_rfl) (by kernel_rfl) (fun _ _ _ h => h) (Or.inl ⟨by rfl, ?_⟩) hHeld ?_
    · rintro w ⟨⟨z0, z1, z2, z3⟩, ⟨y0, y1, y2, y3⟩⟩; go_simp; try with_reducible rfl
    try simp only [Act.put, List.setIfInBounds_toArray, List.set_cons_zero, List.set_cons_succ]
    refine wpAnyH_done (by kernel_rfl) ?_ _
    refine NoPanic.normal ?_
    clear hHeld i60 HSM HOI HOM HGI HGM HOK
    have hrow := i6.gram
    go_wp2_with (first | (refine wpList_load_row rfl 24 _ rfl q2 rfl _ _ _ _ hrow Tryz.underlying24 rfl infoG ?_) | (go_at_call 5; fail))
    clear hrow
    refine (HS2.out w11 i6.one.below).mono ?_
    rintro r w20 ⟨rfl, hb20⟩
    replace i6 := i6.up hb20
    clear hb20 HS2
    have HB : Hid (Below w.heap.size w w20) := i6.one.below
    clear i6
    go_wp2
    go_ret
    exact ⟨rfl, HB.out⟩
  · have q01 : (T.toList == ([] : List UInt8)) = false := empty_beq' hTT
    have hr := HSR.out hTT
    replace HOK : Hid (∀ u, Below w.heap.size w u → Calls Tryz.prog 9 #[.string key, .string T] u fun r w' => r = .returned (.agg #[.int .i64 s, .int .i64 e, .int .i64 c, .string b, .int .i64 0]) ∧ Below u.heap.size u w') := HOK.out hr
    refine wp_region_noPanic ?_
    refine wp_region_held_drew (S := fun u => (u.cell? ⟨q1, 0, none⟩ = some (.int .i64 s) ∧ u.cell? ⟨q1, 1, none⟩ = some (.int .i64 e) ∧ u.cell? ⟨q1, 2, none⟩ = some (.int .i64 c) ∧ u.cell? ⟨q1, 3, none⟩ = some (.string b)) ∧ (u.cell? ⟨q2, 0, none⟩ = some (.int .i64 s') ∧ u.cell? ⟨q2, 1, none⟩ = some (.int .i64 e') ∧ u.cell? ⟨q2, 2, none⟩ = some (.int .i64 c') ∧ u.cell? ⟨q2, 3, none⟩ = some (.string b'))) (by kernel_rfl) i60.cells (fun hHeld => ?_)
    refine wpAnyH_take (i := 0) (oi := { dst := some 35, op := Op.move (Operand.tmp 7), type := 9, pos := "laws.go:141", after := #[], guard := none }) (v := ?_) rfl (by kernel_rfl) (by kernel_rfl) (by kernel_rfl) (fun _ _ _ h => h) (Or.inl ⟨by rfl, ?_⟩) hHeld ?_
    rotate_left
    · rintro w ⟨⟨z0, z1, z2, z3⟩, ⟨y0, y1, y2, y3⟩⟩; go_simp; try with_reducible rfl
    try simp only [Act.put, List.setIfInBounds_toArray, List.set_cons_zero, List.set_cons_succ]
    refine wpAnyH_take (i := 1) (oi := { dst := some 36, op := Op.move (Operand.tmp 5), type := 9, pos := "laws.go:141", after := #[], guard := none }) (v := ?_) rfl (by kernel_rfl) (by kernel_rfl) (by kernel_rfl) (fun _ _ _ h => h) (Or.inl ⟨by rfl, ?_⟩) hHeld ?_
    rotate_left
    · rintro w ⟨⟨z0, z1, z2, z3⟩, ⟨y0, y1, y2, y3⟩⟩; go_simp; try with_reducible rfl
    try simp only [Act.put, List.setIfInBounds_toArray, List.set_cons_zero, List.set_cons_succ]
    refine wpAnyH_take (i := 2) (oi := { dst := some 37, op := Op.load 24 (Operand.tmp 6), type := 24, pos := "laws.go:141", after := #[], guard := none }) (v := ?_) rfl (by kernel_rfl) (by kernel_rfl) (by kernel_rfl) (fun _ _ _ h => h) (Or.inl ⟨by rfl, ?_⟩) hHeld ?_
    rotate_left
    · rintro w ⟨⟨z0, z1, z2, z3⟩, ⟨y0, y1, y2, y3⟩⟩; go_simp; try with_reducible rfl
    try simp only [Act.put, List.setIfInBounds_toArray, List.set_cons_zero, List.set_cons_succ]
    refine wpAnyH_ready (rs := [3]) (by kernel_rfl) (by simp) ?_
    refine AllReadyH.cons rfl (fun K hK => ?_) AllReadyH.nil
    go_simp
    go_at_call 8
    refine (HSM.out _).mono ?_
    rintro r w7 ⟨rfl, hb7⟩
    replace i6 := i6.up hb7
    go_wp2_with fail
    refine hK.out _ _ i6.cells (fun hHeld => ?_)
    clear hb7
    clear hK K
    try simp only [Act.put, List.setIfInBounds_toArray, List.set_cons_zero, List.set_cons_succ]
    refine wpAnyH_take (i := 4) (oi := { dst := some 39, op := Op.binOp BinOp.neq 9 (Operand.tmp 35) (Operand.tmp 38) 9, type := 4, pos := "laws.go:141", after := #[{ on := 0, ground := Ground.data }, { on := 3, ground := Ground.data }], guard := none }) (v := .bool false) rfl (by kernel_rfl) (by kernel_rfl) (by kernel_rfl) (fun _ _ _ h => h) (Or.inl ⟨by rfl, ?_⟩) hHeld ?_
    · rintro w ⟨⟨z0, z1, z2, z3⟩, ⟨y0, y1, y2, y3⟩⟩; go_simp; try with_reducible rfl
    try simp only [Act.put, List.setIfInBounds_toArray, List.set_cons_zero, List.set_cons_succ]
    refine wpAnyH_take (i := 5) (oi := { dst := some 40, op := Op.move (Operand.tmp 39), type := 4, pos := "laws.go:141", after := #[{ on := 4, ground := Ground.data }, { on := 3, ground := Ground.chain }], guard := none }) (v := .bool false) rfl (by kernel_rfl) (by kernel_rfl) (by kernel_rfl) (fun _ _ _ h => h) (Or.inl ⟨by rfl, ?_⟩) hHeld ?_
    · rintro w ⟨⟨z0, z1, z2, z3⟩, ⟨y0, y1, y2, y3⟩⟩; go_simp; try with_reducible rfl
    try simp only [Act.put, List.setIfInBounds_toArray, List.set_cons_zero, List.set_cons_succ]
    refine wpAnyH_take (i := 6) (oi := { dst := some 41, op := Op.move (Operand.tmp 8), type := 9, pos := "laws.go:141", after := #[{ on := 5, ground := Ground.guard }], guard := some (5, false) }) (v := ?_) rfl (by kernel_rfl) (by kernel_rfl) (by kernel_rfl) (fun _ _ _ h => h) (Or.inl ⟨by rfl, ?_⟩) hHeld ?_
    rotate_left
    · rintro w ⟨⟨z0, z1, z2, z3⟩, ⟨y0, y1, y2, y3⟩⟩; go_simp; try with_reducible rfl
    try simp only [Act.put, List.setIfInBounds_toArray, List.set_cons_zero, List.set_cons_succ]
    refine wpAnyH_take (i := 7) (oi := { dst := some 42, op := Op.move (Operand.tmp 9), type := 9, pos := "laws.go:141", after := #[{ on := 5, ground := Ground.guard }], guard := some (5, false) }) (v := ?_) rfl (by kernel_rfl) (by kernel_rfl) (by kernel_rfl) (fun _ _ _ h => h) (Or.inl ⟨by rfl, ?_⟩) hHeld ?_
    rotate_left
    · rintro w ⟨⟨z0, z1, z2, z3⟩, ⟨y0, y1, y2, y3⟩⟩; go_simp; try with_reducible rfl
    try simp only [Act.put, List.setIfInBounds_toArray, List.set_cons_zero, List.set_cons_succ]
    refine wpAnyH_take (i := 9) (oi := { dst := some 44, op := Op.move (Operand.tmp 8), type := 9, pos := "laws.go:141", after := #[{ on := 5, ground := Ground.guard }], guard := some (5, false) }) (v := ?_) rfl (by kernel_rfl) (by kernel_rfl) (by kernel_rfl) (fun _ _ _ h => h) (Or.inl ⟨by rfl, ?_⟩) hHeld ?_
    rotate_left
    · rintro w ⟨⟨z0, z1, z2, z3⟩, ⟨y0, y1, y2, y3⟩⟩; go_simp; try with_reducible rfl
    try simp only [Act.put, List.setIfInBounds_toArray, List.set_cons_zero, List.set_cons_succ]
    refine wpAnyH_take (i := 10) (oi := { dst := some 45, op := Op.move (Operand.tmp 9), type := 9, pos := "laws.go:141", after := #[{ on := 5, ground := Ground.guard }], guard := some (5, false) }) (v := ?_) rfl (by kernel_rfl) (by kernel_rfl) (by kernel_rfl) (fun _ _ _ h => h) (Or.inl ⟨by rfl, ?_⟩) hHeld ?_
    rotate_left
    · rintro w ⟨⟨z0, z1, z2, z3⟩, ⟨y0, y1, y2, y3⟩⟩; go_simp; try with_reducible rfl
    try simp only [Act.put, List.setIfInBounds_toArray, List.set_cons_zero, List.set_cons_succ]
    refine wpAnyH_ready (rs := [8]) (by kernel_rfl) (by simp) ?_
    refine AllReadyH.cons rfl (fun K hK => ?_) AllReadyH.nil
    go_simp
    go_at_call 9
    refine (HOI.out _ i6.one.below).mono ?_
    rintro r w8 ⟨rfl, hb8⟩
    replace i6 := i6.up hb8
    go_wp2_with fail
    refine hK.out _ _ i6.cells (fun hHeld => ?_)
    clear hb8
    clear hK K
    try simp only [Act.put, List.setIfInBounds_toArray, List.set_cons_zero, List.set_cons_succ]
    refine wpAnyH_ready (rs := [11]) (by kernel_rfl) (by simp) ?_
    refine AllReadyH.cons rfl (fun K hK => ?_) AllReadyH.nil
    go_simp
    go_at_call 10
    refine (HOM.out _).mono ?_
    rintro r w9 ⟨rfl, hb9⟩
    replace i6 := i6.up hb9
    go_wp2_with fail
    refine hK.out _ _ i6.cells (fun hHeld => ?_)
    clear hb9
    clear hK K
    try simp only [Act.put, List.setIfInBounds_toArray, List.set_cons_zero, List.set_cons_succ]
    refine wpAnyH_take (i := 12) (oi := { dst := some 47, op := Op.binOp BinOp.neq 32 (Operand.tmp 43) (Operand.tmp 46) 32, type := 4, pos := "laws.go:141", after := #[{ on := 8, ground := Ground.data }, { on := 11, ground := Ground.data }, { on := 5, ground := Ground.guard }], guard := some (5, false) }) (v := .bool false) rfl (by kernel_rfl) (by kernel_rfl) (by kernel_rfl) (fun _ _ _ h => h) (Or.inl ⟨by rfl, ?_⟩) hHeld ?_
    · rintro w ⟨⟨z0, z1, z2, z3⟩, ⟨y0, y1, y2, y3⟩⟩; go_simp; try with_reducible rfl
    try simp only [Act.put, List.setIfInBounds_toArray, List.set_cons_zero, List.set_cons_succ]
    refine wpAnyH_take (i := 13) (oi := { dst := some 48, op := Op.pick (Operand.tmp 40) (Operand.const (Value.bool true)) (Operand.tmp 47), type := 4, pos := "laws.go:141", after := #[{ on := 5, ground := Ground.data }, { on := 12, ground := Ground.data }], guard := none }) (v := .bool false) rfl (by kernel_rfl) (by kernel_rfl) (by kernel_rfl) (fun _ _ _ h => h) (Or.inl ⟨by rfl, ?_⟩) hHeld ?_
    · rintro w ⟨⟨z0, z1, z2, z3⟩, ⟨y0, y1, y2, y3⟩⟩; go_simp; try with_reducible rfl
    try simp only [Act.put, List.setIfInBounds_toArray, List.set_cons_zero, List.set_cons_succ]
    refine wpAnyH_take (i := 14) (oi := { dst := some 49, op := Op.move (Operand.tmp 48), type := 4, pos := "laws.go:141", after := #[{ on := 13, ground := Ground.data }, { on := 11, ground := Ground.chain }], guard := none }) (v := .bool false) rfl (by kernel_rfl) (by kernel_rfl) (by kernel_rfl) (fun _ _ _ h => h) (Or.inl ⟨by rfl, ?_⟩) hHeld ?_
    · rintro w ⟨⟨z0, z1, z2, z3⟩, ⟨y0, y1, y2, y3⟩⟩; go_simp; try with_reducible rfl
    try simp only [Act.put, List.setIfInBounds_toArray, List.set_cons_zero, List.set_cons_succ]
    refine wpAnyH_take (i := 15) (oi := { dst := some 50, op := Op.load 24 (Operand.tmp 10), type := 24, pos := "laws.go:141", after := #[{ on := 14, ground := Ground.guard }], guard := some (14, false) }) (v := ?_) rfl (by kernel_rfl) (by kernel_rfl) (by kernel_rfl) (fun _ _ _ h => h) (Or.inl ⟨by rfl, ?_⟩) hHeld ?_
    rotate_left
    · rintro w ⟨⟨z0, z1, z2, z3⟩, ⟨y0, y1, y2, y3⟩⟩; go_simp; try with_reducible rfl
    try simp only [Act.put, List.setIfInBounds_toArray, List.set_cons_zero, List.set_cons_succ]
    refine wpAnyH_take (i := 17) (oi := { dst := some 52, op := Op.load 24 (Operand.tmp 10), type := 24, pos := "laws.go:141", after := #[{ on := 14, ground := Ground.guard }], guard := some (14, false) }) (v := ?_) rfl (by kernel_rfl) (by kernel_rfl) (by kernel_rfl) (fun _ _ _ h => h) (Or.inl ⟨by rfl, ?_⟩) hHeld ?_
    rotate_left
    · rintro w ⟨⟨z0, z1, z2, z3⟩, ⟨y0, y1, y2, y3⟩⟩; go_simp; try with_reducible rfl
    try simp only [Act.put, List.setIfInBounds_toArray, List.set_cons_zero, List.set_cons_succ]
    refine wpAnyH_ready (rs := [16]) (by kernel_rfl) (by simp) ?_
    refine AllReadyH.cons rfl (fun K hK => ?_) AllReadyH.nil
    go_simp
    go_at_call 11
    refine (HGI.out _).mono ?_
    rintro r w10 ⟨rfl, hb10⟩
    replace i6 := i6.up hb10
    go_wp2_with fail
    refine hK.out _ _ i6.cells (fun hHeld => ?_)
    clear hb10
    clear hK K
    try simp only [Act.put, List.setIfInBounds_toArray, List.set_cons_zero, List.set_cons_succ]
    refine wpAnyH_ready (rs := [18]) (by kernel_rfl) (by simp) ?_
    refine AllReadyH.cons rfl (fun K hK => ?_) AllReadyH.nil
    go_simp
    go_at_call 12
    refine (HGM.out _).mono ?_
    rintro r w11 ⟨rfl, hb11⟩
    replace i6 := i6.up hb11
    go_wp2_with fail
    refine hK.out _ _ i6.cells (fun hHeld => ?_)
    clear hb11
    clear hK K
    try simp only [Act.put, List.setIfInBounds_toArray, List.set_cons_zero, List.set_cons_succ]
    refine wpAnyH_take (i := 19) (oi := { dst := some 54, op := Op.binOp BinOp.neq 4 (Operand.tmp 51) (Operand.tmp 53) 4, type := 4, pos := "laws.go:141", after := #[{ on := 16, ground := Ground.data }, { on := 18, ground := Ground.data }, { on := 14, ground := Ground.guard }], guard := some (14, false) }) (v := .bool false) rfl (by kernel_rfl) (by kernel_rfl) (by kernel_rfl) (fun _ _ _ h => h) (Or.inl ⟨by rfl, ?_⟩) hHeld ?_
    · rintro w ⟨⟨z0, z1, z2, z3⟩, ⟨y0, y1, y2, y3⟩⟩; go_simp; try with_reducible rfl
    try simp only [Act.put, List.setIfInBounds_toArray, List.set_cons_zero, List.set_cons_succ]
    refine wpAnyH_take (i := 20) (oi := { dst := some 55, op := Op.pick (Operand.tmp 49) (Operand.const (Value.bool true)) (Operand.tmp 54), type := 4, pos := "laws.go:141", after := #[{ on := 14, ground := Ground.data }, { on := 19, ground := Ground.data }], guard := none }) (v := .bool false) rfl (by kernel_rfl) (by kernel_rfl) (by kernel_rfl) (fun _ _ _ h => h) (Or.inl ⟨by rfl, ?_⟩) hHeld ?_
    · rintro w ⟨⟨z0, z1, z2, z3⟩, ⟨y0, y1, y2, y3⟩⟩; go_simp; try with_reducible rfl
    try simp only [Act.put, List.setIfInBounds_toArray, List.set_cons_zero, List.set_cons_succ]
    refine wpAnyH_take (i := 21) (oi := { dst := some 56, op := Op.move (Operand.tmp 55), type := 4, pos := "laws.go:141", after := #[{ on := 20, ground := Ground.data }, { on := 18, ground := Ground.chain }], guard := none }) (v := .bool false) rfl (by kernel_rfl) (by kernel_rfl) (by kernel_rfl) (fun _ _ _ h => h) (Or.inl ⟨by rfl, ?_⟩) hHeld ?_
    · rintro w ⟨⟨z0, z1, z2, z3⟩, ⟨y0, y1, y2, y3⟩⟩; go_simp; try with_reducible rfl
    try simp only [Act.put, List.setIfInBounds_toArray, List.set_cons_zero, List.set_cons_succ]
    refine wpAnyH_take (i := 22) (oi := { dst := some 57, op := Op.move (Operand.tmp 7), type := 9, pos := "laws.go:141", after := #[{ on := 21, ground := Ground.guard }], guard := some (21, false) }) (v := ?_) rfl (by kernel_rfl) (by kernel_rfl) (by kernel_rfl) (fun _ _ _ h => h) (Or.inl ⟨by rfl, ?_⟩) hHeld ?_
    rotate_left
    · rintro w ⟨⟨z0, z1, z2, z3⟩, ⟨y0, y1, y2, y3⟩⟩; go_simp; try with_reducible rfl
    try simp only [Act.put, List.setIfInBounds_toArray, List.set_cons_zero, List.set_cons_succ]
    refine wpAnyH_take (i := 23) (oi := { dst := some 58, op := Op.binOp BinOp.neq 9 (Operand.tmp 57) (Operand.const (Value.string { data := #[] })) 9, type := 4, pos := "laws.go:141", after := #[{ on := 22, ground := Ground.data }, { on := 21, ground := Ground.guard }], guard := some (21, false) }) (v := .bool true) rfl (by kernel_rfl) (by kernel_rfl) (by kernel_rfl) (fun _ _ _ h => h) (Or.inl ⟨by rfl, ?_⟩) hHeld ?_
    · rintro w ⟨⟨z0, z1, z2, z3⟩, ⟨y0, y1, y2, y3⟩⟩; go_simp; try with_reducible rfl
    try simp only [Act.put, List.setIfInBounds_toArray, List.set_cons_zero, List.set_cons_succ]
    refine wpAnyH_take (i := 24) (oi := { dst := some 59, op := Op.move (Operand.tmp 58), type := 4, pos := "laws.go:141", after := #[{ on := 23, ground := Ground.data }, { on := 21, ground := Ground.chain }, { on := 21, ground := Ground.guard }], guard := some (21, false) }) (v := .bool true) rfl (by kernel_rfl) (by kernel_rfl) (by kernel_rfl) (fun _ _ _ h => h) (Or.inl ⟨by rfl, ?_⟩) hHeld ?_
    · rintro w ⟨⟨z0, z1, z2, z3⟩, ⟨y0, y1, y2, y3⟩⟩; go_simp; try with_reducible rfl
    try simp only [Act.put, List.setIfInBounds_toArray, List.set_cons_zero, List.set_cons_succ]
    refine wpAnyH_take (i := 25) (oi := { dst := some 60, op := Op.move (Operand.tmp 5), type := 9, pos := "laws.go:141", after := #[{ on := 24, ground := Ground.guard }], guard := some (24, true) }) (v := ?_) rfl (by kernel_rfl) (by kernel_rfl) (by kernel_rfl) (fun _ _ _ h => h) (Or.inl ⟨by rfl, ?_⟩) hHeld ?_
    rotate_left
    · rintro w ⟨⟨z0, z1, z2, z3⟩, ⟨y0, y1, y2, y3⟩⟩; go_simp; try with_reducible rfl
    try simp only [Act.put, List.setIfInBounds_toArray, List.set_cons_zero, List.set_cons_succ]
    refine wpAnyH_take (i := 26) (oi := { dst := some 61, op := Op.move (Operand.tmp 7), type := 9, pos := "laws.go:141", after := #[{ on := 24, ground := Ground.guard }], guard := some (24, true) }) (v := ?_) rfl (by kernel_rfl) (by kernel_rfl) (by kernel_rfl) (fun _ _ _ h => h) (Or.inl ⟨by rfl, ?_⟩) hHeld ?_
    rotate_left
    · rintro w ⟨⟨z0, z1, z2, z3⟩, ⟨y0, y1, y2, y3⟩⟩; go_simp; try with_reducible rfl
    try simp only [Act.put, List.setIfInBounds_toArray, List.set_cons_zero, List.set_cons_succ]
    refine wpAnyH_take (i := 28) (oi := { dst := some 63, op := Op.load 24 (Operand.tmp 6), type := 24, pos := "laws.go:141", after := #[{ on := 24, ground := Ground.guard }], guard := some (24, true) }) (v := ?_) rfl (by kernel_rfl) (by kernel_rfl) (by kernel_rfl) (fun _ _ _ h => h) (Or.inl ⟨by rfl, ?_⟩) hHeld ?_
    rotate_left
    · rintro w ⟨⟨z0, z1, z2, z3⟩, ⟨y0, y1, y2, y3⟩⟩; go_simp; try with_reducible rfl
    try simp only [Act.put, List.setIfInBounds_toArray, List.set_cons_zero, List.set_cons_succ]
    refine wpAnyH_take (i := 29) (oi := { dst := some 64, op := Op.build 32 #[(0, Operand.tmp 63)], type := 32, pos := "laws.go:141", after := #[{ on := 28, ground := Ground.data }, { on := 24, ground := Ground.guard }], guard := some (24, true) }) (v := ?_) rfl (by kernel_rfl) (by kernel_rfl) (by kernel_rfl) (fun _ _ _ h => h) (Or.inl ⟨by rfl, ?_⟩) hHeld ?_
    rotate_left
    · rintro w ⟨⟨z0, z1, z2, z3⟩, ⟨y0, y1, y2, y3⟩⟩; go_simp; try with_reducible rfl
    try simp only [Act.put, List.setIfInBounds_toArray, List.set_cons_zero, List.set_cons_succ]
    refine wpAnyH_ready (rs := [27]) (by kernel_rfl) (by simp) ?_
    refine AllReadyH.cons rfl (fun K hK => ?_) AllReadyH.nil
    go_simp
    go_at_call 9
    refine (HOK.out _ i6.one.below).mono ?_
    rintro r w12 ⟨rfl, hb12⟩
    replace i6 := i6.up hb12
    go_wp2_with fail
    refine hK.out _ _ i6.cells (fun hHeld => ?_)
    clear hb12
    clear hK K
    try simp only [Act.put, List.setIfInBounds_toArray, List.set_cons_zero, List.set_cons_succ]
    refine wpAnyH_take (i := 30) (oi := { dst := some 65, op := Op.binOp BinOp.neq 32 (Operand.tmp 62) (Operand.tmp 64) 32, type := 4, pos := "laws.go:141", after := #[{ on := 27, ground := Ground.data }, { on := 29, ground := Ground.data }, { on := 24, ground := Ground.guard }], guard := some (24, true) }) (v := .bool false) rfl (by kernel_rfl) (by kernel_rfl) (by kernel_rfl) (fun _ _ _ h => h) (Or.inl ⟨by rfl, ?_⟩) hHeld ?_
    · rintro w ⟨⟨z0, z1, z2, z3⟩, ⟨y0, y1, y2, y3⟩⟩; go_simp; try with_reducible rfl
    try simp only [Act.put, List.setIfInBounds_toArray, List.set_cons_zero, List.set_cons_succ]
    refine wpAnyH_take (i := 31) (oi := { dst := some 66, op := Op.pick (Operand.tmp 59) (Operand.tmp 65) (Operand.const (Value.bool false)), type := 4, pos := "laws.go:141", after := #[{ on := 24, ground := Ground.data }, { on := 30, ground := Ground.data }, { on := 21, ground := Ground.guard }], guard := some (21, false) }) (v := .bool false) rfl (by kernel_rfl) (by kernel_rfl) (by kernel_rfl) (fun _ _ _ h => h) (Or.inl ⟨by rfl, ?_⟩) hHeld ?_
    · rintro w ⟨⟨z0, z1, z2, z3⟩, ⟨y0, y1, y2, y3⟩⟩; go_simp; try with_reducible rfl
    try simp only [Act.put, List.setIfInBounds_toArray, List.set_cons_zero, List.set_cons_succ]
    refine wpAnyH_take (i := 32) (oi := { dst := some 67, op := Op.pick (Operand.tmp 56) (Operand.const (Value.bool true)) (Operand.tmp 66), type := 4, pos := "laws.go:141", after := #[{ on := 21, ground := Ground.data }, { on := 31, ground := Ground.data }], guard := none }) (v := .bool false) rfl (by kernel_rfl) (by kernel_rfl) (by kernel_rfl) (fun _ _ _ h => h) (Or.inl ⟨by rfl, ?_⟩) hHeld ?_
    · rintro w ⟨⟨z0, z1, z2, z3⟩, ⟨y0, y1, y2, y3⟩⟩; go_simp; try with_reducible rfl
    try simp only [Act.put, List.setIfInBounds_toArray, List.set_cons_zero, List.set_cons_succ]
    refine wpAnyH_done (by kernel_rfl) ?_ _
    refine NoPanic.normal ?_
    clear hHeld i60 HSM HOI HOM HGI HGM HOK
    have hrow := i6.gram
    go_wp2_with (first | (refine wpList_load_row rfl 24 _ rfl q2 rfl _ _ _ _ hrow Tryz.underlying24 rfl infoG ?_) | (go_at_call 5; fail))
    clear hrow
    refine (HS2.out w12 i6.one.below).mono ?_
    rintro r w20 ⟨rfl, hb20⟩
    replace i6 := i6.up hb20
    clear hb20 HS2
    by_cases hT2 : T2 = ⟨#[]⟩
    · have q02 : (T2.toList == ([] : List UInt8)) = true := by rw [hT2, toList_data']; rfl
      have HB : Hid (Below w.heap.size w w20) := i6.one.below
      clear i6
      go_wp2
      go_ret
      exact ⟨rfl, HB.out⟩
    · have q02 : (T2.toList == ([] : List UInt8)) = false := empty_beq' hT2
      have hr2 := HSR2.out hT2
      have g1 := HN1.out hr
      have g2 := HN2.out hr2
      obtain ⟨n1, hn1⟩ : ∃ n, n = numG s e c := ⟨_, rfl⟩
      obtain ⟨n2, hn2⟩ : ∃ n, n = numG s' e' c' := ⟨_, rfl⟩
      rw [← hn1] at g1
      rw [← hn2] at g2
      obtain ⟨p1, hp1⟩ : ∃ p : Int, p = ((pn.numB n1).size : Int) := ⟨_, rfl⟩
      obtain ⟨p2, hp2⟩ : ∃ p : Int, p = ((pn.numB n2).size : Int) := ⟨_, rfl⟩
      rw [← hp1] at g1
      rw [← hp2] at g2
      have HG1 : Hid (∀ u, Calls Tryz.prog 13 #[.string T, .int .i64 0] u fun e w' => e = .returned (.agg #[.int .i64 n1, .int .i64 p1, .int .i64 0]) ∧ Below u.heap.size u w') := fun u => getNumM_out T n1 p1 0 g1 (by omega) u
      have HG2 : Hid (∀ u, Calls Tryz.prog 13 #[.string T2, .int .i64 0] u fun e w' => e = .returned (.agg #[.int .i64 n2, .int .i64 p2, .int .i64 0]) ∧ Below u.heap.size u w') := fun u => getNumM_out T2 n2 p2 0 g2 (by omega) u
      have HEQ : Hid (n1 = n2 → (s = s' ∧ e = e' ∧ c = c') ∧ p1 = p2) := fun hh => ⟨num_inj hr.2 hr2.2 (by rw [← hn1, ← hn2]; exact hh), by rw [hp1, hp2, hh]⟩
      clear g1 g2 hn1 hn2 hp1 hp2 hr hr2 HN1 HN2 HSR HSR2
      go_wp2_with (go_at_call 13; fail)
      refine (HG1.out w20).mono ?_
      rintro r w21 ⟨rfl, hb21⟩
      replace i6 := i6.up hb21
      clear hb21 HG1
      go_wp2_with (go_at_call 13; fail)
      refine (HG2.out w21).mono ?_
      rintro r w22 ⟨rfl, hb22⟩
      replace i6 := i6.up hb22
      clear hb22 HG2
      obtain ⟨⟨x0, x1, x2, x3⟩, ⟨y0, y1, y2, y3⟩⟩ := i6.cells
      have HB : Hid (Below w.heap.size w w22) := i6.one.below
      clear i6
      by_cases hnn : n1 = n2
      · obtain ⟨⟨es, ee, ec⟩, ep⟩ := HEQ.out hnn
        have qn : (n1 == n2) = true := by simp [hnn]
        have qp : (p1 == p2) = true := by simp [ep]
        have qs : (s == s') = true := by simp [es]
        have qe : (e == e') = true := by simp [ee]
        have qc : (c == c') = true := by simp [ec]
        clear HEQ hnn es ee ec ep
        go_wp2
        go_ret
        exact ⟨rfl, HB.out⟩
      · have qn : (n1 == n2) = false := by simp [hnn]
        clear HEQ hnn
        go_wp2
        go_ret
        exact ⟨rfl, HB.out⟩
end Go.Proofs.YtgchjinbnlclnaaGreatDoor.gm
