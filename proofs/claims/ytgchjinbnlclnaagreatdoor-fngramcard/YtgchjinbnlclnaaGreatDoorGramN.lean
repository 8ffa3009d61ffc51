/-
  The model's GramOpen behind a right number: what the plain function tells; no old block turns. No condition.
-/
import Derived.Test.YtgchjinbnlclnaaGreatDoorGramM
namespace Go.Proofs.YtgchjinbnlclnaaGreatDoor.gm
open Go.ChangeShapes Go.WideShapes Go.ChangeAt Go.RowKit
open Go.Proofs.YtgchjinbnlclnaaGreatDoor.wi (RightG gramI_any gramM_any heap_lt wp_w calls_w is_any)
open Go.Proofs.YtgchjinbnlclnaaGreatDoor.np (getV numV)
open Classical
set_option linter.unusedVariables false
set_option linter.unusedSimpArgs false

/-- behind the box: its answer's block too -/
structure InMb (w : World) (q : Nat) (n a : Int) (y : Nat) (T : ByteArray) (c : Int) (u : World) : Prop where
  base : InMx w q n a 0 u
  box : u.heap[y]? = some (.cells #[.string T, .int .i64 0, .int .i64 c] 58 (0, 0))
theorem InMb.up {w u u' : World} {q : Nat} {n a : Int} {y : Nat} {T : ByteArray} {c : Int} (h : InMb w q n a y T c u) (hb : Below u.heap.size u u') : InMb w q n a y T c u' := ⟨h.base.up hb, (hb.block _ (heap_lt h.box)).trans h.box⟩
theorem InMb.drew {w u : World} {q : Nat} {n a : Int} {y : Nat} {T : ByteArray} {c : Int} (h : InMb w q n a y T c u) : InMb w q n a y T c u.drew := ⟨h.base.drew, h.box⟩
theorem InMb.cells {w u : World} {q : Nat} {n a : Int} {y : Nat} {T : ByteArray} {c : Int} (h : InMb w q n a y T c u) :
    (u.cell? ⟨q, 0, none⟩ = some (.int .i64 n) ∧ u.cell? ⟨q, 1, none⟩ = some (.int .i64 a) ∧ u.cell? ⟨q, 2, none⟩ = some (.int .i64 0)) ∧ (u.cell? ⟨y, 0, none⟩ = some (.string T) ∧ u.cell? ⟨y, 1, none⟩ = some (.int .i64 0) ∧ u.cell? ⟨y, 2, none⟩ = some (.int .i64 c)) ∧ (u.frozen? ⟨y, 0, none⟩ = false ∧ u.frozen? ⟨y, 1, none⟩ = false ∧ u.frozen? ⟨y, 2, none⟩ = false) := by
  refine ⟨h.base.cells, ⟨?_, ?_, ?_⟩, frozen_of_row _ _ _ _ _ h.box, frozen_of_row _ _ _ _ _ h.box, frozen_of_row _ _ _ _ _ h.box⟩ <;> simp [World.cell?, h.box]

theorem InMb.set {w u : World} {q : Nat} {n a : Int} {y : Nat} {T0 T : ByteArray} {c0 c : Int} (h : InMb w q n a y T0 c0 u) (hq : w.heap.size < q) (hy : q < y) : InMb w q n a y T c (((u.setCell ⟨y, 0, none⟩ (.string T)).setCell ⟨y, 1, none⟩ (.int .i64 0)).setCell ⟨y, 2, none⟩ (.int .i64 c)) := by
  have k1 : w.heap.size ≠ y := by omega
  have k2 : q ≠ y := by omega
  have k3 : w.heap.size ≤ y := by omega
  refine ⟨⟨⟨((h.base.base.1.setCell k3 _).setCell k3 _).setCell k3 _, ?_⟩, ?_⟩, ?_⟩
  · rw [heap_setCell_other _ _ _ _ k1, heap_setCell_other _ _ _ _ k1, heap_setCell_other _ _ _ _ k1]; exact h.base.base.2
  · rw [heap_setCell_other _ _ _ _ k2, heap_setCell_other _ _ _ _ k2, heap_setCell_other _ _ _ _ k2]; exact h.base.num
  · have h1 := heap_setCell_same u y 0 _ _ (.string T) h.box
    have h2 := heap_setCell_same _ y 1 _ _ (.int .i64 0) h1
    have h3 := heap_setCell_same _ y 2 _ _ (.int .i64 c) h2
    exact h3
/-- behind the gram: its block -/
structure InMg (w : World) (g : Nat) (s e c : Int) (T : ByteArray) (u : World) : Prop where
  base : InR w u
  gram : u.heap[g]? = some (.cells #[.int .i64 s, .int .i64 e, .int .i64 c, .string T] 24 (0, 0))
theorem InMg.up {w u u' : World} {g : Nat} {s e c : Int} {T : ByteArray} (h : InMg w g s e c T u) (hb : Below u.heap.size u u') : InMg w g s e c T u' := ⟨h.base.up hb, (hb.block _ (heap_lt h.gram)).trans h.gram⟩
theorem right_pos {n : Int} (h : 0 ≤ n ∧ n ≤ 804401) (b : Nat) : RightG (n / 2001 / 201) (n / 2001 % 201) (n % 2001) b ↔ b ≤ 800 := by
  unfold RightG; omega

set_option maxHeartbeats 8000000 in
theorem openM_box (key text : ByteArray) (w : World) (hk : key.size ≤ 8000) (ht : text.size ≤ 8000) (h1 : KeyR key) (n a : Int) (hg : getV text 0 = (n, a, 0)) (h2 : 0 ≤ n ∧ n ≤ 804401) (T : ByteArray) (c : Int) (ho : cc.openA key n (text.extract a.toNat text.size) = (T, c)) :
    Calls Tryz.prog 10 #[.string key, .string text] w fun r w' => r = .returned (outG (openG key text)) ∧ Below w.heap.size w w' := by
  have HK := fun u => keyM_any key u (Nat.le_trans hk (by decide))
  rw [decide_eq_true h1] at HK
  have HN := fun u => getNumM_out text n a 0 hg ht u
  obtain ⟨k, rfl, hkl, hex, hi⟩ := nk.num_canon hg
  have hsz : ¬ (8000 < key.size ∨ 8000 < text.size) := by omega
  rw [Int.toNat_natCast] at ho
  have HO : Hid (∀ u, Calls Tryz.prog 31 #[.string key, .int .i64 n, .string (text.extract k text.size)] u fun e w' => e = .returned (.agg #[.string T, .int .i64 0, .int .i64 c]) ∧ Below u.heap.size u w') := fun u => cc.specOpen_out key n _ T c ho u (Nat.le_trans hk (by decide)) (by rw [ByteArray.size_extract]; unfold maxLen; omega)
  have HTs : Hid (T.size ≤ maxLen) := openA_small ho (by rw [ByteArray.size_extract]; unfold maxLen; omega)
  have HA1 : Hid (c ≠ 0 → openG key text = noG c) := fun hc => openG_box hsz h1 hg h2 (by rw [Int.toNat_natCast]; exact ho) hc
  have HA2 : Hid (c = 0 → 800 < T.size → openG key text = noG 1) := fun hc hl => openG_long hsz h1 hg h2 (by rw [Int.toNat_natCast, ho, hc]) hl
  have HA3 : Hid (c = 0 → ¬ 800 < T.size → openG key text = ((n / 2001 / 201, n / 2001 % 201, n % 2001, T), 0)) := fun hc hl => by rw [openG_ok hsz h1 hg h2 (by rw [Int.toNat_natCast, ho, hc]) hl, gS_pos h2.1, gE_pos h2.1, gC_pos h2.1]
  obtain ⟨A, hA⟩ : ∃ A, A = openG key text := ⟨_, rfl⟩
  rw [← hA] at HA1 HA2 HA3 ⊢
  have HIS : Hid (∀ u, Calls Tryz.prog 30 #[.int .i64 n, .int .i64 0, .int .i64 804401] u fun r w' => r = .returned (.bool true) ∧ w' = u) := fun u => by have := is_any n 0 804401 u; rwa [decide_eq_true h2] at this
  have hqs : ((pn.numB n).toList == (text.extract 0 k).toList) = true := by rw [hex]; simp
  have hkl2 : (k : Int) ≤ (text.size : Int) := by omega
  clear hA hg ho hsz
  go_enter Tryz.func10, Tryz.ntmps10
  go_wp2_with (first | (go_at_call 26; (with_reducible refine (HK _).mono ?_); rintro r w' ⟨rfl, hw'⟩; obtain rfl := hw'.symm) | (go_at_call 13; fail))
  refine calls_w (InR w) (inR_start w) ?_
  intro u0 i0
  refine (HN u0).mono ?_
  rintro r w1 ⟨rfl, hb1⟩
  have i1 := i0.up hb1
  clear i0 hb1 HK HN
  go_wp2_with fail
  have hm : w.heap.size < w1.heap.size := heap_lt i1.2
  have i2 : InMx w w1.heap.size n (k : Int) 0 (w1.alloc (.cells #[.int .i64 n, .int .i64 (k : Int), .int .i64 0] 36)) := ⟨i1.up ((Below.refl _ _).alloc (Nat.le_refl _) _), heap_alloc_new _ _⟩
  obtain ⟨q, hqq⟩ : ∃ q, q = w1.heap.size := ⟨_, rfl⟩
  rw [← hqq] at i2 hm ⊢
  refine wp_w (InMx w q n (k : Int) 0) i2 ?_
  clear i1 i2 hqq
  intro u2 i2
  obtain ⟨x0, x1, x2⟩ := i2.cells
  replace i2 := i2.drew
  refine wp_region_noPanic ?_
  refine wp_region_held_drew (S := fun u => u.cell? ⟨q, 0, none⟩ = some (.int .i64 n) ∧ u.cell? ⟨q, 1, none⟩ = some (.int .i64 (k : Int)) ∧ u.cell? ⟨q, 2, none⟩ = some (.int .i64 0)) (by kernel_rfl) ⟨x0, x1, x2⟩ (fun hHeld => ?_)
  refine wpAnyH_take (i := 0) (oi := { dst := some 23, op := Op.fieldAddr 36 (Operand.tmp 5) 2, type := 0, pos := "l04_gram.go:30", after := #[], guard := none }) (v := ?_) rfl (by kernel_rfl) (by kernel_rfl) (by kernel_rfl) (fun _ _ _ h => h) (Or.inl ⟨by rfl, ?_⟩) hHeld ?_
  rotate_left
  · rintro w ⟨z0, z1, z2⟩; go_simp; try with_reducible rfl
  try simp only [Act.put, List.setIfInBounds_toArray, List.set_cons_zero, List.set_cons_succ]
  refine wpAnyH_take (i := 1) (oi := { dst := some 24, op := Op.load 2 (Operand.tmp 23), type := 2, pos := "l04_gram.go:30", after := #[{ on := 0, ground := Ground.data }], guard := none }) (v := ?_) rfl (by kernel_rfl) (by kernel_rfl) (by kernel_rfl) (fun _ _ _ h => h) (Or.inl ⟨by rfl, ?_⟩) hHeld ?_
  rotate_left
  · rintro w ⟨z0, z1, z2⟩; go_simp; try with_reducible rfl
  try simp only [Act.put, List.setIfInBounds_toArray, List.set_cons_zero, List.set_cons_succ]
  refine wpAnyH_take (i := 2) (oi := { dst := some 25, op := Op.binOp BinOp.neq 2 (Operand.tmp 24) (Operand.const (Value.int IntKind.i64 0)) 2, type := 4, pos := "l04_gram.go:30", after := #[{ on := 1, ground := Ground.data }], guard := none }) (v := .bool false) rfl (by kernel_rfl) (by kernel_rfl) (by kernel_rfl) (fun _ _ _ h => h) (Or.inl ⟨by rfl, ?_⟩) hHeld ?_
  · rintro w ⟨z0, z1, z2⟩; go_simp; try with_reducible rfl
  try simp only [Act.put, List.setIfInBounds_toArray, List.set_cons_zero, List.set_cons_succ]
  refine wpAnyH_take (i := 3) (oi := { dst := some 26, op := Op.move (Operand.tmp 25), type := 4, pos := "l04_gram.go:30", after := #[{ on := 2, ground := Ground.data }], guard := none }) (v := ?_) rfl (by kernel_rfl) (by kernel_rfl) (by kernel_rfl) (fun _ _ _ h => h) (Or.inl ⟨by rfl, ?_⟩) hHeld ?_
  rotate_left
  · rintro w ⟨z0, z1, z2⟩; go_simp; try with_reducible rfl
  try simp only [Act.put, List.setIfInBounds_toArray, List.set_cons_zero, List.set_cons_succ]
  refine wpAnyH_take (i := 4) (oi := { dst := some 27, op := Op.fieldAddr 36 (Operand.tmp 5) 0, type := 0, pos := "l04_gram.go:30", after := #[{ on := 3, ground := Ground.guard }], guard := some (3, false) }) (v := ?_) rfl (by kernel_rfl) (by kernel_rfl) (by kernel_rfl) (fun _ _ _ h => h) (Or.inl ⟨by rfl, ?_⟩) hHeld ?_
  rotate_left
  · rintro w ⟨z0, z1, z2⟩; go_simp; try with_reducible rfl
  try simp only [Act.put, List.setIfInBounds_toArray, List.set_cons_zero, List.set_cons_succ]
  refine wpAnyH_take (i := 5) (oi := { dst := some 28, op := Op.load 2 (Operand.tmp 27), type := 2, pos := "l04_gram.go:30", after := #[{ on := 4, ground := Ground.data }, { on := 3, ground := Ground.guard }], guard := some (3, false) }) (v := ?_) rfl (by kernel_rfl) (by kernel_rfl) (by kernel_rfl) (fun _ _ _ h => h) (Or.inl ⟨by rfl, ?_⟩) hHeld ?_
  rotate_left
  · rintro w ⟨z0, z1, z2⟩; go_simp; try with_reducible rfl
  try simp only [Act.put, List.setIfInBounds_toArray, List.set_cons_zero, List.set_cons_succ]
  refine wpAnyH_ready (rs := [6]) (by kernel_rfl) (by simp) ?_
  refine AllReadyH.cons rfl (fun K hK => ?_) AllReadyH.nil
  go_simp
  go_at_call 27
  refine (topM _).mono ?_
  rintro r w' ⟨rfl, hw'⟩
  obtain rfl := hw'.symm
  go_wp2_with fail
  refine hK.out _ _ hHeld (fun _ => ?_)
  clear hK K
  try simp only [Act.put, List.setIfInBounds_toArray, List.set_cons_zero, List.set_cons_succ]
  refine wpAnyH_ready (rs := [7]) (by kernel_rfl) (by simp) ?_
  refine AllReadyH.cons rfl (fun K hK => ?_) AllReadyH.nil
  go_simp
  go_at_call 30
  refine (HIS.out _).mono ?_
  rintro r w' ⟨rfl, hw'⟩
  obtain rfl := hw'.symm
  go_wp2_with fail
  refine hK.out _ _ hHeld (fun _ => ?_)
  clear hK K
  try simp only [Act.put, List.setIfInBounds_toArray, List.set_cons_zero, List.set_cons_succ]
  refine wpAnyH_take (i := 8) (oi := { dst := some 31, op := Op.unOp UnOp.not 4 (Operand.tmp 30), type := 4, pos := "l04_gram.go:30", after := #[{ on := 7, ground := Ground.data }, { on := 3, ground := Ground.guard }], guard := some (3, false) }) (v := .bool false) rfl (by kernel_rfl) (by kernel_rfl) (by kernel_rfl) (fun _ _ _ h => h) (Or.inl ⟨by rfl, ?_⟩) hHeld ?_
  · rintro w ⟨z0, z1, z2⟩; go_simp; try with_reducible rfl
  try simp only [Act.put, List.setIfInBounds_toArray, List.set_cons_zero, List.set_cons_succ]
  refine wpAnyH_take (i := 9) (oi := { dst := some 32, op := Op.pick (Operand.tmp 26) (Operand.const (Value.bool true)) (Operand.tmp 31), type := 4, pos := "l04_gram.go:30", after := #[{ on := 3, ground := Ground.data }, { on := 8, ground := Ground.data }], guard := none }) (v := .bool false) rfl (by kernel_rfl) (by kernel_rfl) (by kernel_rfl) (fun _ _ _ h => h) (Or.inl ⟨by rfl, ?_⟩) hHeld ?_
  · rintro w ⟨z0, z1, z2⟩; go_simp; try with_reducible rfl
  try simp only [Act.put, List.setIfInBounds_toArray, List.set_cons_zero, List.set_cons_succ]
  refine wpAnyH_take (i := 10) (oi := { dst := some 33, op := Op.move (Operand.tmp 32), type := 4, pos := "l04_gram.go:30", after := #[{ on := 9, ground := Ground.data }, { on := 7, ground := Ground.chain }], guard := none }) (v := ?_) rfl (by kernel_rfl) (by kernel_rfl) (by kernel_rfl) (fun _ _ _ h => h) (Or.inl ⟨by rfl, ?_⟩) hHeld ?_
  rotate_left
  · rintro w ⟨z0, z1, z2⟩; go_simp; try with_reducible rfl
  try simp only [Act.put, List.setIfInBounds_toArray, List.set_cons_zero, List.set_cons_succ]
  refine wpAnyH_take (i := 11) (oi := { dst := some 34, op := Op.fieldAddr 36 (Operand.tmp 5) 0, type := 0, pos := "l04_gram.go:30", after := #[{ on := 10, ground := Ground.guard }], guard := some (10, false) }) (v := ?_) rfl (by kernel_rfl) (by kernel_rfl) (by kernel_rfl) (fun _ _ _ h => h) (Or.inl ⟨by rfl, ?_⟩) hHeld ?_
  rotate_left
  · rintro w ⟨z0, z1, z2⟩; go_simp; try with_reducible rfl
  try simp only [Act.put, List.setIfInBounds_toArray, List.set_cons_zero, List.set_cons_succ]
  refine wpAnyH_take (i := 12) (oi := { dst := some 35, op := Op.load 2 (Operand.tmp 34), type := 2, pos := "l04_gram.go:30", after := #[{ on := 11, ground := Ground.data }, { on := 10, ground := Ground.guard }], guard := some (10, false) }) (v := ?_) rfl (by kernel_rfl) (by kernel_rfl) (by kernel_rfl) (fun _ _ _ h => h) (Or.inl ⟨by rfl, ?_⟩) hHeld ?_
  rotate_left
  · rintro w ⟨z0, z1, z2⟩; go_simp; try with_reducible rfl
  try simp only [Act.put, List.setIfInBounds_toArray, List.set_cons_zero, List.set_cons_succ]
  refine wpAnyH_take (i := 14) (oi := { dst := some 37, op := Op.move (Operand.tmp 1), type := 9, pos := "l04_gram.go:30", after := #[{ on := 10, ground := Ground.guard }], guard := some (10, false) }) (v := ?_) rfl (by kernel_rfl) (by kernel_rfl) (by kernel_rfl) (fun _ _ _ h => h) (Or.inl ⟨by rfl, ?_⟩) hHeld ?_
  rotate_left
  · rintro w ⟨z0, z1, z2⟩; go_simp; try with_reducible rfl
  try simp only [Act.put, List.setIfInBounds_toArray, List.set_cons_zero, List.set_cons_succ]
  refine wpAnyH_take (i := 15) (oi := { dst := some 38, op := Op.fieldAddr 36 (Operand.tmp 5) 1, type := 0, pos := "l04_gram.go:30", after := #[{ on := 10, ground := Ground.guard }], guard := some (10, false) }) (v := ?_) rfl (by kernel_rfl) (by kernel_rfl) (by kernel_rfl) (fun _ _ _ h => h) (Or.inl ⟨by rfl, ?_⟩) hHeld ?_
  rotate_left
  · rintro w ⟨z0, z1, z2⟩; go_simp; try with_reducible rfl
  try simp only [Act.put, List.setIfInBounds_toArray, List.set_cons_zero, List.set_cons_succ]
  refine wpAnyH_take (i := 16) (oi := { dst := some 39, op := Op.load 2 (Operand.tmp 38), type := 2, pos := "l04_gram.go:30", after := #[{ on := 15, ground := Ground.data }, { on := 10, ground := Ground.guard }], guard := some (10, false) }) (v := ?_) rfl (by kernel_rfl) (by kernel_rfl) (by kernel_rfl) (fun _ _ _ h => h) (Or.inl ⟨by rfl, ?_⟩) hHeld ?_
  rotate_left
  · rintro w ⟨z0, z1, z2⟩; go_simp; try with_reducible rfl
  try simp only [Act.put, List.setIfInBounds_toArray, List.set_cons_zero, List.set_cons_succ]
  refine wpAnyH_take (i := 17) (oi := { dst := some 40, op := Op.slice 9 (Operand.tmp 37) none (some (Operand.tmp 39)) none, type := 9, pos := "l04_gram.go:30", after := #[{ on := 14, ground := Ground.data }, { on := 16, ground := Ground.data }, { on := 10, ground := Ground.guard }], guard := some (10, false) }) (v := .string (text.extract 0 k)) rfl (by kernel_rfl) (by kernel_rfl) (by kernel_rfl) (fun _ _ _ h => h) (Or.inl ⟨by rfl, ?_⟩) hHeld ?_
  · rintro w ⟨z0, z1, z2⟩; go_simp; try with_reducible rfl
  try simp only [Act.put, List.setIfInBounds_toArray, List.set_cons_zero, List.set_cons_succ]
  refine wpAnyH_ready (rs := [13]) (by kernel_rfl) (by simp) ?_
  refine AllReadyH.cons rfl (fun K hK => ?_) AllReadyH.nil
  go_simp
  go_at_call 24
  refine (pn.spec_any n _ hi).mono ?_
  rintro r w6 ⟨rfl, hb6⟩
  replace i2 := i2.up hb6
  go_wp2_with fail
  refine hK.out _ _ i2.cells (fun hHeld => ?_)
  clear hb6
  clear hK K
  try simp only [Act.put, List.setIfInBounds_toArray, List.set_cons_zero, List.set_cons_succ]
  refine wpAnyH_take (i := 18) (oi := { dst := some 41, op := Op.binOp BinOp.neq 9 (Operand.tmp 36) (Operand.tmp 40) 9, type := 4, pos := "l04_gram.go:30", after := #[{ on := 13, ground := Ground.data }, { on := 17, ground := Ground.data }, { on := 10, ground := Ground.guard }], guard := some (10, false) }) (v := .bool false) rfl (by kernel_rfl) (by kernel_rfl) (by kernel_rfl) (fun _ _ _ h => h) (Or.inl ⟨by rfl, ?_⟩) hHeld ?_
  · rintro w ⟨z0, z1, z2⟩; go_simp; try with_reducible rfl
  try simp only [Act.put, List.setIfInBounds_toArray, List.set_cons_zero, List.set_cons_succ]
  refine wpAnyH_take (i := 19) (oi := { dst := some 42, op := Op.pick (Operand.tmp 33) (Operand.const (Value.bool true)) (Operand.tmp 41), type := 4, pos := "l04_gram.go:30", after := #[{ on := 10, ground := Ground.data }, { on := 18, ground := Ground.data }], guard := none }) (v := .bool false) rfl (by kernel_rfl) (by kernel_rfl) (by kernel_rfl) (fun _ _ _ h => h) (Or.inl ⟨by rfl, ?_⟩) hHeld ?_
  · rintro w ⟨z0, z1, z2⟩; go_simp; try with_reducible rfl
  try simp only [Act.put, List.setIfInBounds_toArray, List.set_cons_zero, List.set_cons_succ]
  refine wpAnyH_done (by kernel_rfl) ?_ _
  refine NoPanic.normal ?_
  clear hHeld HIS hqs x0 x1 x2
  obtain ⟨x0, x1, x2⟩ := i2.cells
  go_wp2_with fail
  have i2o := i2
  replace i2 := i2.drew
  refine wp_region_noPanic ?_
  refine wp_region_held_drew (S := fun u => u.cell? ⟨q, 0, none⟩ = some (.int .i64 n) ∧ u.cell? ⟨q, 1, none⟩ = some (.int .i64 (k : Int)) ∧ u.cell? ⟨q, 2, none⟩ = some (.int .i64 0)) (by kernel_rfl) ⟨x0, x1, x2⟩ (fun hHeld => ?_)
  refine wpAnyH_take (i := 0) (oi := { dst := some 44, op := Op.move (Operand.tmp 0), type := 9, pos := "l04_gram.go:33", after := #[], guard := none }) (v := ?_) rfl (by kernel_rfl) (by kernel_rfl) (by kernel_rfl) (fun _ _ _ h => h) (Or.inl ⟨by rfl, ?_⟩) hHeld ?_
  rotate_left
  · rintro w ⟨z0, z1, z2⟩; go_simp; try with_reducible rfl
  try simp only [Act.put, List.setIfInBounds_toArray, List.set_cons_zero, List.set_cons_succ]
  refine wpAnyH_take (i := 1) (oi := { dst := some 45, op := Op.fieldAddr 36 (Operand.tmp 5) 0, type := 0, pos := "l04_gram.go:33", after := #[], guard := none }) (v := ?_) rfl (by kernel_rfl) (by kernel_rfl) (by kernel_rfl) (fun _ _ _ h => h) (Or.inl ⟨by rfl, ?_⟩) hHeld ?_
  rotate_left
  · rintro w ⟨z0, z1, z2⟩; go_simp; try with_reducible rfl
  try simp only [Act.put, List.setIfInBounds_toArray, List.set_cons_zero, List.set_cons_succ]
  refine wpAnyH_take (i := 2) (oi := { dst := some 46, op := Op.load 2 (Operand.tmp 45), type := 2, pos := "l04_gram.go:33", after := #[{ on := 1, ground := Ground.data }], guard := none }) (v := ?_) rfl (by kernel_rfl) (by kernel_rfl) (by kernel_rfl) (fun _ _ _ h => h) (Or.inl ⟨by rfl, ?_⟩) hHeld ?_
  rotate_left
  · rintro w ⟨z0, z1, z2⟩; go_simp; try with_reducible rfl
  try simp only [Act.put, List.setIfInBounds_toArray, List.set_cons_zero, List.set_cons_succ]
  refine wpAnyH_take (i := 3) (oi := { dst := some 47, op := Op.move (Operand.tmp 1), type := 9, pos := "l04_gram.go:33", after := #[], guard := none }) (v := ?_) rfl (by kernel_rfl) (by kernel_rfl) (by kernel_rfl) (fun _ _ _ h => h) (Or.inl ⟨by rfl, ?_⟩) hHeld ?_
  rotate_left
  · rintro w ⟨z0, z1, z2⟩; go_simp; try with_reducible rfl
  try simp only [Act.put, List.setIfInBounds_toArray, List.set_cons_zero, List.set_cons_succ]
  refine wpAnyH_take (i := 4) (oi := { dst := some 48, op := Op.fieldAddr 36 (Operand.tmp 5) 1, type := 0, pos := "l04_gram.go:33", after := #[], guard := none }) (v := ?_) rfl (by kernel_rfl) (by kernel_rfl) (by kernel_rfl) (fun _ _ _ h => h) (Or.inl ⟨by rfl, ?_⟩) hHeld ?_
  rotate_left
  · rintro w ⟨z0, z1, z2⟩; go_simp; try with_reducible rfl
  try simp only [Act.put, List.setIfInBounds_toArray, List.set_cons_zero, List.set_cons_succ]
  refine wpAnyH_take (i := 5) (oi := { dst := some 49, op := Op.load 2 (Operand.tmp 48), type := 2, pos := "l04_gram.go:33", after := #[{ on := 4, ground := Ground.data }], guard := none }) (v := ?_) rfl (by kernel_rfl) (by kernel_rfl) (by kernel_rfl) (fun _ _ _ h => h) (Or.inl ⟨by rfl, ?_⟩) hHeld ?_
  rotate_left
  · rintro w ⟨z0, z1, z2⟩; go_simp; try with_reducible rfl
  try simp only [Act.put, List.setIfInBounds_toArray, List.set_cons_zero, List.set_cons_succ]
  refine wpAnyH_take (i := 6) (oi := { dst := some 50, op := Op.slice 9 (Operand.tmp 47) (some (Operand.tmp 49)) none none, type := 9, pos := "l04_gram.go:33", after := #[{ on := 3, ground := Ground.data }, { on := 5, ground := Ground.data }], guard := none }) (v := .string (text.extract k text.size)) rfl (by kernel_rfl) (by kernel_rfl) (by kernel_rfl) (fun _ _ _ h => h) (Or.inl ⟨by rfl, ?_⟩) hHeld ?_
  · rintro w ⟨z0, z1, z2⟩; go_simp; try with_reducible rfl
  try simp only [Act.put, List.setIfInBounds_toArray, List.set_cons_zero, List.set_cons_succ]
  refine wpAnyH_ready (rs := [7, 8]) (by kernel_rfl) (by simp) ?_
  refine AllReadyH.cons rfl (fun K hK => ?_) (AllReadyH.cons rfl (fun K hK => ?_) AllReadyH.nil)
  · go_simp
    go_at_call 31
    refine (HO.out _).mono ?_
    rintro r w8 ⟨rfl, hb8⟩
    have i8 := i2.up hb8
    go_wp2_with fail
    refine hK.out _ _ i8.cells (fun hHeld2 => ?_)
    clear hK K hb8
    try simp only [Act.put, List.setIfInBounds_toArray, List.set_cons_zero, List.set_cons_succ]
    refine wpAnyH_ready (rs := [8]) (by kernel_rfl) (by simp) ?_
    refine AllReadyH.cons rfl (fun K hK => ?_) AllReadyH.nil
    go_simp
    refine hK.out _ _ (i8.up ((Below.refl _ _).alloc (Nat.le_refl _) _)).cells (fun hHeld3 => ?_)
    clear hK K
    try simp only [Act.put, List.setIfInBounds_toArray, List.set_cons_zero, List.set_cons_succ]
    refine wpAnyH_ready (rs := [9]) (by kernel_rfl) (by simp) ?_
    refine AllReadyH.cons rfl (fun K hK => ?_) AllReadyH.nil
    go_simp
    have i9 : InMb w q n (k : Int) w8.heap.size T c (w8.alloc (.cells #[.string T, .int .i64 0, .int .i64 c] 58)) := ⟨i8.up ((Below.refl _ _).alloc (Nat.le_refl _) _), heap_alloc_new _ _⟩
    have hm8 : q < w8.heap.size := heap_lt i8.num
    refine hK.out _ _ i9.base.cells (fun _ => ?_)
    clear hK K hHeld hHeld2 hHeld3 i8 i2 i2o x0 x1 x2 HO
    try simp only [Act.put, List.setIfInBounds_toArray, List.set_cons_zero, List.set_cons_succ]
    refine wpAnyH_done (by kernel_rfl) ?_ _
    refine NoPanic.normal ?_
    obtain ⟨y, hy⟩ : ∃ y, y = w8.heap.size := ⟨_, rfl⟩
    generalize w8.alloc (.cells #[.string T, .int .i64 0, .int .i64 c] 58) = u9 at i9 ⊢
    rw [← hy] at i9 hm8 ⊢
    clear hy
    by_cases hc : c = 0
    · subst hc
      obtain ⟨⟨x0, x1, x2⟩, ⟨y0, y1, y2⟩, _⟩ := i9.cells
      go_wp2_with (go_at_call 12; fail)
      have i10 : InMg w u9.heap.size (n / 2001 / 201) (n / 2001 % 201) (n % 2001) T (u9.alloc (.cells #[.int .i64 (n / 2001 / 201), .int .i64 (n / 2001 % 201), .int .i64 (n % 2001), .string T] 24)) := ⟨i9.base.base.up ((Below.refl _ _).alloc (Nat.le_refl _) _), heap_alloc_new _ _⟩
      have hm9 : y < u9.heap.size := heap_lt i9.box
      obtain ⟨g, hgg⟩ : ∃ g, g = u9.heap.size := ⟨_, rfl⟩
      rw [← hgg] at i10 hm9 ⊢
      refine calls_w (InMg w g (n / 2001 / 201) (n / 2001 % 201) (n % 2001) T) i10 ?_
      clear i9 i10 hgg x0 x1 x2 y0 y1 y2
      intro u10 i10
      refine (gramM_any _ _ _ T u10 HTs.out).mono ?_
      rintro r w11 ⟨rfl, hb11⟩
      have i11 := i10.up hb11
      clear i10 hb11
      have hres := i11.base.2
      have HB : Hid (Below w.heap.size w w11) := i11.base.1
      have hgr := i11.gram
      have HR : Hid (RightG (n / 2001 / 201) (n / 2001 % 201) (n % 2001) T.size ↔ T.size ≤ 800) := right_pos h2 T.size
      by_cases hl : 800 < T.size
      · rw [decide_eq_false (fun hh => by have := HR.out.1 hh; omega)]
        have hAA := HA2.out (by trivial) hl
        subst hAA
        clear i11 HA1 HA2 HA3 HR
        go_wp2_with (refine wpList_store_row rfl 32 _ _ rfl w.heap.size _ rfl rfl _ _ hres infoGO (by rfl) (by simp [Value.oneCell']) ?_)
        exact bodyPost_ret (results_cell_row Tryz.results10 _ _ w.heap.size _ _ _ _ rfl (setRow_heap _ _ _ _ _ _ hres) Tryz.underlying32 rfl infoGO) rfl ⟨rfl, below_setRow HB.out (Nat.le_refl _) _⟩
      · rw [decide_eq_true (HR.out.2 (by omega))]
        have hAA := HA3.out (by trivial) hl
        subst hAA
        clear i11 HA1 HA2 HA3 HR
        go_wp2_with (first | (refine wpList_load_row rfl 24 _ rfl g rfl _ _ _ _ hgr Tryz.underlying24 rfl infoG ?_) | (refine wpList_store_row rfl 32 _ _ rfl w.heap.size _ rfl rfl _ _ hres infoGO (by rfl) (by simp [Value.oneCell']) ?_))
        exact bodyPost_ret (results_cell_row Tryz.results10 _ _ w.heap.size _ _ _ _ rfl (setRow_heap _ _ _ _ _ _ hres) Tryz.underlying32 rfl infoGO) rfl ⟨rfl, below_setRow HB.out (Nat.le_refl _) _⟩
    · have hAA := HA1.out hc
      subst hAA
      have hq : (c == 0) = false := by simp [hc]
      obtain ⟨⟨x0, x1, x2⟩, ⟨y0, y1, y2⟩, _⟩ := i9.cells
      have hres := i9.base.base.2
      have HB : Hid (Below w.heap.size w u9) := i9.base.base.1
      clear i9 HA1 HA2 HA3
      go_wp2_with (refine wpList_store_row rfl 32 _ _ rfl w.heap.size _ rfl rfl _ _ hres infoGO (by rfl) (by simp [Value.oneCell']) ?_)
      exact bodyPost_ret (results_cell_row Tryz.results10 _ _ w.heap.size _ _ _ _ rfl (setRow_heap _ _ _ _ _ _ hres) Tryz.underlying32 rfl infoGO) rfl ⟨rfl, below_setRow HB.out (Nat.le_refl _) _⟩
  · go_simp
    have i7 : InMb w q n (k : Int) w6.heap.size ⟨#[]⟩ 0 (w6.alloc (.cells #[.string ⟨#[]⟩, .int .i64 0, .int .i64 0] 58)).drew := ⟨(i2o.up ((Below.refl _ _).alloc (Nat.le_refl _) _)).drew, heap_alloc_new w6 _⟩
    have hm8 : q < w6.heap.size := heap_lt i2o.num
    refine hK.out _ _ i7.base.cells (fun hHeld2 => ?_)
    clear hK K i2 i2o x0 x1 x2 hHeld
    obtain ⟨y, hy⟩ : ∃ y, y = w6.heap.size := ⟨_, rfl⟩
    try simp only [Act.put, List.setIfInBounds_toArray, List.set_cons_zero, List.set_cons_succ]
    rw [← hy] at i7 hm8 ⊢
    generalize (w6.alloc (.cells #[.string ⟨#[]⟩, .int .i64 0, .int .i64 0] 58)).drew = u7 at i7 hHeld2 ⊢
    clear hy
    refine wpAnyH_ready (rs := [7]) (by kernel_rfl) (by simp) ?_
    refine AllReadyH.cons rfl (fun K hK => ?_) AllReadyH.nil
    go_simp
    go_at_call 31
    refine (HO.out _).mono ?_
    rintro r w8 ⟨rfl, hb8⟩
    have i8 := i7.up hb8
    go_wp2_with fail
    refine hK.out _ _ i8.base.cells (fun hHeld3 => ?_)
    clear hK K i7 hb8 hHeld2
    try simp only [Act.put, List.setIfInBounds_toArray, List.set_cons_zero, List.set_cons_succ]
    obtain ⟨⟨x0, x1, x2⟩, ⟨y0, y1, y2⟩, ⟨f0, f1, f2⟩⟩ := i8.cells
    have n1 : ¬ q = y := by omega
    have n2 : ¬ y = q := by omega
    refine wpAnyH_ready (rs := [9]) (by kernel_rfl) (by simp) ?_
    refine AllReadyH.cons rfl (fun K hK => ?_) AllReadyH.nil
    go_simp
    have i9 := i8.set hm hm8 (T := T) (c := c)
    refine hK.out _ _ i9.base.cells (fun _ => ?_)
    clear hK K hHeld3 i8 x0 x1 x2 y0 y1 y2 f0 f1 f2 n1 n2 HO
    try simp only [Act.put, List.setIfInBounds_toArray, List.set_cons_zero, List.set_cons_succ]
    refine wpAnyH_done (by kernel_rfl) ?_ _
    refine NoPanic.normal ?_
    generalize ((w8.setCell ⟨y, 0, none⟩ (.string T)).setCell ⟨y, 1, none⟩ (.int .i64 0)).setCell ⟨y, 2, none⟩ (.int .i64 c) = u9 at i9 ⊢
    by_cases hc : c = 0
    · subst hc
      obtain ⟨⟨x0, x1, x2⟩, ⟨y0, y1, y2⟩, _⟩ := i9.cells
      go_wp2_with (go_at_call 12; fail)
      have i10 : InMg w u9.heap.size (n / 2001 / 201) (n / 2001 % 201) (n % 2001) T (u9.alloc (.cells #[.int .i64 (n / 2001 / 201), .int .i64 (n / 2001 % 201), .int .i64 (n % 2001), .string T] 24)) := ⟨i9.base.base.up ((Below.refl _ _).alloc (Nat.le_refl _) _), heap_alloc_new _ _⟩
      have hm9 : y < u9.heap.size := heap_lt i9.box
      obtain ⟨g, hgg⟩ : ∃ g, g = u9.heap.size := ⟨_, rfl⟩
      rw [← hgg] at i10 hm9 ⊢
      refine calls_w (InMg w g (n / 2001 / 201) (n / 2001 % 201) (n % 2001) T) i10 ?_
      clear i9 i10 hgg x0 x1 x2 y0 y1 y2
      intro u10 i10
      refine (gramM_any _ _ _ T u10 HTs.out).mono ?_
      rintro r w11 ⟨rfl, hb11⟩
      have i11 := i10.up hb11
      clear i10 hb11
      have hres := i11.base.2
      have HB : Hid (Below w.heap.size w w11) := i11.base.1
      have hgr := i11.gram
      have HR : Hid (RightG (n / 2001 / 201) (n / 2001 % 201) (n % 2001) T.size ↔ T.size ≤ 800) := right_pos h2 T.size
      by_cases hl : 800 < T.size
      · rw [decide_eq_false (fun hh => by have := HR.out.1 hh; omega)]
        have hAA := HA2.out (by trivial) hl
        subst hAA
        clear i11 HA1 HA2 HA3 HR
        go_wp2_with (refine wpList_store_row rfl 32 _ _ rfl w.heap.size _ rfl rfl _ _ hres infoGO (by rfl) (by simp [Value.oneCell']) ?_)
        exact bodyPost_ret (results_cell_row Tryz.results10 _ _ w.heap.size _ _ _ _ rfl (setRow_heap _ _ _ _ _ _ hres) Tryz.underlying32 rfl infoGO) rfl ⟨rfl, below_setRow HB.out (Nat.le_refl _) _⟩
      · rw [decide_eq_true (HR.out.2 (by omega))]
        have hAA := HA3.out (by trivial) hl
        subst hAA
        clear i11 HA1 HA2 HA3 HR
        go_wp2_with (first | (refine wpList_load_row rfl 24 _ rfl g rfl _ _ _ _ hgr Tryz.underlying24 rfl infoG ?_) | (refine wpList_store_row rfl 32 _ _ rfl w.heap.size _ rfl rfl _ _ hres infoGO (by rfl) (by simp [Value.oneCell']) ?_))
        exact bodyPost_ret (results_cell_row Tryz.results10 _ _ w.heap.size _ _ _ _ rfl (setRow_heap _ _ _ _ _ _ hres) Tryz.underlying32 rfl infoGO) rfl ⟨rfl, below_setRow HB.out (Nat.le_refl _) _⟩
    · have hAA := HA1.out hc
      subst hAA
      have hq : (c == 0) = false := by simp [hc]
      obtain ⟨⟨x0, x1, x2⟩, ⟨y0, y1, y2⟩, _⟩ := i9.cells
      have hres := i9.base.base.2
      have HB : Hid (Below w.heap.size w u9) := i9.base.base.1
      clear i9 HA1 HA2 HA3
      go_wp2_with (refine wpList_store_row rfl 32 _ _ rfl w.heap.size _ rfl rfl _ _ hres infoGO (by rfl) (by simp [Value.oneCell']) ?_)
      exact bodyPost_ret (results_cell_row Tryz.results10 _ _ w.heap.size _ _ _ _ rfl (setRow_heap _ _ _ _ _ _ hres) Tryz.underlying32 rfl infoGO) rfl ⟨rfl, below_setRow HB.out (Nat.le_refl _) _⟩
end Go.Proofs.YtgchjinbnlclnaaGreatDoor.gm
