/-
  A drawn gram: whatever the bytes, four fields, the Body short; no old block turns. No condition.
-/
import Derived.Test.YtgchjinbnlclnaaGreatDoorMg6
import Derived.Laws.CopyOwn
namespace Go.Proofs.YtgchjinbnlclnaaGreatDoor.db
open Go.ChangeShapes Go.WideShapes Go.ChangeAt Go.RowKit
open Go.Proofs.YtgchjinbnlclnaaGreatDoor.dr
set_option linter.unusedVariables false

/-- a number below the most; no block but the source's turns -/
theorem n_g {w0 u : World} {a : Option Addr} {len cap : Nat} (h : At w0 a len cap u) (most : Nat) (m0 : 1 ≤ most) (m1 : most ≤ 1048576) :
    Calls Tryz.prog 22 #[.pointer (some ⟨w0.heap.size, 0, none⟩), .int .i64 (most : Int)] u fun e w' => ∃ k : Nat, e = .returned (.int .i64 (k : Int)) ∧ k < most ∧ At w0 a len cap w' ∧ u.grownBy w' (some w0.heap.size) := by
  refine (n_any _ _ a len cap most _ h.1 h.2.2 (by omega) (by omega)).mono ?_
  rintro e w' ⟨v, rfl, v0, v1, v2, hS, hg⟩
  obtain ⟨k, rfl⟩ : ∃ k : Nat, v = (k : Int) := ⟨v.toNat, by omega⟩
  refine ⟨k, rfl, ?_, h.next hS hg, hg⟩
  rcases Nat.lt_or_ge 1 most with h1 | h1
  · have := v1 (by omega); omega
  · have := v2 (by omega); omega
theorem one_g {w0 u : World} {a : Option Addr} {len cap : Nat} (h : At w0 a len cap u) (of_ : Int) (m0 : -9223372036854775808 ≤ of_) (m1 : of_ ≤ 9223372036854775807) :
    Calls Tryz.prog 33 #[.pointer (some ⟨w0.heap.size, 0, none⟩), .int .i64 of_] u fun e w' => ∃ v : Bool, e = .returned (.bool v) ∧ At w0 a len cap w' ∧ u.grownBy w' (some w0.heap.size) :=
  (one_any _ _ a len cap of_ u h.1 h.2.2 m0 m1).mono fun e w' ⟨v, he, hS, hg⟩ => ⟨v, he, h.next hS hg, hg⟩
theorem bytes_g {w0 u : World} {a : Option Addr} {len cap : Nat} (h : At w0 a len cap u) (n : Int) (n0 : 0 ≤ n) (n1 : n ≤ 1048576) :
    Calls Tryz.prog 35 #[.pointer (some ⟨w0.heap.size, 0, none⟩), .int .i64 n] u fun e w' => ∃ t : ByteArray, e = .returned (.string t) ∧ (t.size : Int) = n ∧ At w0 a len cap w' ∧ u.grownBy w' (some w0.heap.size) :=
  (bytes_any _ _ a len cap n u h.1 h.2.2 n0 n1).mono fun e w' ⟨t, he, ht, hS, hg⟩ => ⟨t, he, ht, h.next hS hg, hg⟩

theorem row_lt {u : World} {g : Nat} {o : Obj} (h : u.heap[g]? = some o) : g < u.heap.size := (Array.getElem?_eq_some_iff.1 h).1
/-- a source at work, and a row beside it -/
structure Two (w0 : World) (a : Option Addr) (len cap : Nat) (R : Nat) (o : Obj) (u : World) : Prop where
  at_ : At w0 a len cap u
  row : u.heap[R]? = some o
  lt : w0.heap.size < R
theorem Two.next {w0 u u' : World} {a : Option Addr} {len cap R : Nat} {o : Obj} (h : Two w0 a len cap R o u) (hA : At w0 a len cap u') (hg : u.grownBy u' (some w0.heap.size)) : Two w0 a len cap R o u' :=
  ⟨hA, (hg.block _ (row_lt h.row) (by have := h.lt; simp; omega)).trans h.row, h.lt⟩
theorem Two.up {w0 u u' : World} {a : Option Addr} {len cap R : Nat} {o : Obj} (h : Two w0 a len cap R o u) (hb : Below u.heap.size u u') : Two w0 a len cap R o u' := ⟨At.up h.at_ hb, (hb.block _ (row_lt h.row)).trans h.row, h.lt⟩
theorem Two.start {w0 u : World} {a : Option Addr} {len cap : Nat} (h : At w0 a len cap u) (o : Obj) : Two w0 a len cap u.heap.size o (u.alloc o) := ⟨At.alloc h o, heap_alloc_new _ _, h.1.lt⟩
theorem Two.drew {w0 u : World} {a : Option Addr} {len cap R : Nat} {o : Obj} (h : Two w0 a len cap R o u) : Two w0 a len cap R o u.drew := ⟨At.drew h.at_, h.row, h.lt⟩

/-- and a second row, of four -/
structure Three (w0 : World) (a : Option Addr) (len cap : Nat) (R : Nat) (o : Obj) (G : Nat) (c0 c1 c2 c3 : Value) (u : World) : Prop where
  two : Two w0 a len cap R o u
  row : u.heap[G]? = some (.cells #[c0, c1, c2, c3] 24 (0, 0))
  lt : R < G
theorem Three.next {w0 u u' : World} {a : Option Addr} {len cap R : Nat} {o : Obj} {G : Nat} {c0 c1 c2 c3 : Value} (h : Three w0 a len cap R o G c0 c1 c2 c3 u) (hA : At w0 a len cap u') (hg : u.grownBy u' (some w0.heap.size)) : Three w0 a len cap R o G c0 c1 c2 c3 u' :=
  ⟨h.two.next hA hg, (hg.block _ (row_lt h.row) (by have := h.lt; have := h.two.lt; simp; omega)).trans h.row, h.lt⟩
theorem Three.up {w0 u u' : World} {a : Option Addr} {len cap R : Nat} {o : Obj} {G : Nat} {c0 c1 c2 c3 : Value} (h : Three w0 a len cap R o G c0 c1 c2 c3 u) (hb : Below u.heap.size u u') : Three w0 a len cap R o G c0 c1 c2 c3 u' := ⟨h.two.up hb, (hb.block _ (row_lt h.row)).trans h.row, h.lt⟩
theorem Three.drew {w0 u : World} {a : Option Addr} {len cap R : Nat} {o : Obj} {G : Nat} {c0 c1 c2 c3 : Value} (h : Three w0 a len cap R o G c0 c1 c2 c3 u) : Three w0 a len cap R o G c0 c1 c2 c3 u.drew := ⟨h.two.drew, h.row, h.lt⟩
theorem Three.start {w0 u : World} {a : Option Addr} {len cap R : Nat} {o : Obj} (h : Two w0 a len cap R o u) (c0 c1 c2 c3 : Value) : Three w0 a len cap R o u.heap.size c0 c1 c2 c3 (u.alloc (.cells #[c0, c1, c2, c3] 24)) := ⟨h.up ((Below.refl _ _).alloc (Nat.le_refl _) _), heap_alloc_new _ _, row_lt h.row⟩
theorem At.set {w0 u : World} {a : Option Addr} {len cap G i : Nat} {v : Value} (h : At w0 a len cap u) (hG : w0.heap.size < G) : At w0 a len cap (u.setCell ⟨G, i, none⟩ v) := by
  have hb : Below w0.heap.size u (u.setCell ⟨G, i, none⟩ v) := (Below.refl _ _).setCell (Nat.le_of_lt hG) _
  exact ⟨h.1.kept (heap_setCell_other _ _ _ _ (by show w0.heap.size ≠ G; omega)), h.2.1.trans hb, h.2.2.below hb⟩
theorem Three.set0 {w0 u : World} {a : Option Addr} {len cap R : Nat} {o : Obj} {G : Nat} {c0 c1 c2 c3 : Value} (h : Three w0 a len cap R o G c0 c1 c2 c3 u) (v : Value) : Three w0 a len cap R o G v c1 c2 c3 (u.setCell ⟨G, 0, none⟩ v) :=
  ⟨⟨At.set h.two.at_ (Nat.lt_trans h.two.lt h.lt), (heap_setCell_other _ _ _ _ (by have := h.lt; show R ≠ G; omega)).trans h.two.row, h.two.lt⟩, heap_setCell_same u G 0 _ _ v h.row, h.lt⟩
theorem Three.set1 {w0 u : World} {a : Option Addr} {len cap R : Nat} {o : Obj} {G : Nat} {c0 c1 c2 c3 : Value} (h : Three w0 a len cap R o G c0 c1 c2 c3 u) (v : Value) : Three w0 a len cap R o G c0 v c2 c3 (u.setCell ⟨G, 1, none⟩ v) :=
  ⟨⟨At.set h.two.at_ (Nat.lt_trans h.two.lt h.lt), (heap_setCell_other _ _ _ _ (by have := h.lt; show R ≠ G; omega)).trans h.two.row, h.two.lt⟩, heap_setCell_same u G 1 _ _ v h.row, h.lt⟩
theorem Three.set2 {w0 u : World} {a : Option Addr} {len cap R : Nat} {o : Obj} {G : Nat} {c0 c1 c2 c3 : Value} (h : Three w0 a len cap R o G c0 c1 c2 c3 u) (v : Value) : Three w0 a len cap R o G c0 c1 v c3 (u.setCell ⟨G, 2, none⟩ v) :=
  ⟨⟨At.set h.two.at_ (Nat.lt_trans h.two.lt h.lt), (heap_setCell_other _ _ _ _ (by have := h.lt; show R ≠ G; omega)).trans h.two.row, h.two.lt⟩, heap_setCell_same u G 2 _ _ v h.row, h.lt⟩
theorem Three.set3 {w0 u : World} {a : Option Addr} {len cap R : Nat} {o : Obj} {G : Nat} {c0 c1 c2 c3 : Value} (h : Three w0 a len cap R o G c0 c1 c2 c3 u) (v : Value) : Three w0 a len cap R o G c0 c1 c2 v (u.setCell ⟨G, 3, none⟩ v) :=
  ⟨⟨At.set h.two.at_ (Nat.lt_trans h.two.lt h.lt), (heap_setCell_other _ _ _ _ (by have := h.lt; show R ≠ G; omega)).trans h.two.row, h.two.lt⟩, heap_setCell_same u G 3 _ _ v h.row, h.lt⟩
theorem Three.cells {w0 u : World} {a : Option Addr} {len cap R : Nat} {o : Obj} {G : Nat} {c0 c1 c2 c3 : Value} (h : Three w0 a len cap R o G c0 c1 c2 c3 u) : (u.cell? ⟨G, 0, none⟩ = some c0 ∧ u.cell? ⟨G, 1, none⟩ = some c1 ∧ u.cell? ⟨G, 2, none⟩ = some c2 ∧ u.cell? ⟨G, 3, none⟩ = some c3) ∧ (u.frozen? ⟨G, 0, none⟩ = false ∧ u.frozen? ⟨G, 1, none⟩ = false ∧ u.frozen? ⟨G, 2, none⟩ = false ∧ u.frozen? ⟨G, 3, none⟩ = false) := by
  refine ⟨⟨?_, ?_, ?_, ?_⟩, frozen_of_row _ _ _ _ _ h.row, frozen_of_row _ _ _ _ _ h.row, frozen_of_row _ _ _ _ _ h.row, frozen_of_row _ _ _ _ _ h.row⟩ <;> simp [World.cell?, h.row]
/-- the answer is put into its row -/
theorem at_setRow {w0 u : World} {a : Option Addr} {len cap R : Nat} {cs : Array Value} (h : At w0 a len cap u) (hR : w0.heap.size < R) : At w0 a len cap (u.setRow R cs) := by
  have hb : Below w0.heap.size u (u.setRow R cs) := below_setRow (Below.refl _ _) (Nat.le_of_lt hR) _
  exact ⟨h.1.kept (setRow_other _ _ _ _ (by omega)), h.2.1.trans hb, h.2.2.below hb⟩

/-- one of three numbers -/
theorem three_cell (u : World) (x y z : Int) (v : Nat) (hv : v < 3) :
    ∃ n : Int, (u.alloc (.cells #[.int .i64 x, .int .i64 y, .int .i64 z] 2)).cell? ⟨u.heap.size, v, none⟩ = some (.int .i64 n) := by
  match v, hv with
  | 0, _ => exact ⟨x, by simp⟩
  | 1, _ => exact ⟨y, by simp⟩
  | 2, _ => exact ⟨z, by simp⟩
theorem infoG4 : (Tryz.prog.info? 24).map (·.size) = some 4 := by kernel_rfl
set_option maxRecDepth 20000 in
set_option maxHeartbeats 8000000 in
theorem gram_at {w0 u : World} {a : Option Addr} {len cap : Nat} (h : At w0 a len cap u) :
    Calls Tryz.prog 16 #[.pointer (some ⟨w0.heap.size, 0, none⟩)] u fun r w' => ∃ (s e c : Int) (b : ByteArray), r = .returned (.agg #[.int .i64 s, .int .i64 e, .int .i64 c, .string b]) ∧ b.size ≤ 801 ∧ At w0 a len cap w' := by
  have i0 := Two.start h (.cells #[.int .i64 0, .int .i64 0, .int .i64 0, .string ⟨#[]⟩] 24)
  clear h
  go_enter Tryz.func16, Tryz.ntmps16
  go_wp2_with fail
  obtain ⟨R, hR⟩ : ∃ R, R = u.heap.size := ⟨_, rfl⟩
  rw [← hR] at i0 ⊢
  clear hR
  refine (n_g i0.at_ 2 (by omega) (by omega)).mono ?_
  rintro e w1 ⟨s, rfl, hs, hA, hg⟩
  have i1 := i0.next hA hg
  clear i0 hA hg
  go_wp2_with fail
  refine (n_g i1.at_ 4 (by omega) (by omega)).mono ?_
  rintro e w2 ⟨e, rfl, he, hA, hg⟩
  have i2 := i1.next hA hg
  clear i1 hA hg
  go_wp2_with fail
  refine (n_g i2.at_ 30 (by omega) (by omega)).mono ?_
  rintro e w3 ⟨c, rfl, hc, hA, hg⟩
  have i3 := i2.next hA hg
  clear i2 hA hg
  go_wp2_with fail
  refine (n_g i3.at_ 20 (by omega) (by omega)).mono ?_
  rintro e w4 ⟨k, rfl, hk, hA, hg⟩
  have i4 := i3.next hA hg
  clear i3 hA hg
  go_wp2_with fail
  refine (bytes_g i4.at_ _ (by omega) (by omega)).mono ?_
  rintro e w5 ⟨b, rfl, hb, hA, hg⟩
  have i5 := i4.next hA hg
  clear i4 hA hg
  go_wp2_with fail
  have i6 := Three.start i5 (.int .i64 (s : Int)) (.int .i64 (e : Int)) (.int .i64 (c : Int)) (.string b)
  obtain ⟨G, hG⟩ : ∃ G, G = w5.heap.size := ⟨_, rfl⟩
  rw [← hG] at i6 ⊢
  clear hG i5
  refine (one_g i6.two.at_ _ (by omega) (by omega)).mono ?_
  rintro e w7 ⟨vb, rfl, hA, hg⟩
  have i7 := i6.next hA hg
  clear i6 hA hg
  cases vb
  · have hrow := i7.row
    have hres := i7.two.row
    have HA : Hid (At w0 a len cap w7) := i7.two.at_
    have HL : Hid (w0.heap.size < R) := i7.two.lt
    clear i7
    go_wp2_with (first | (refine wpList_load_row rfl 24 _ rfl G rfl _ _ _ _ hrow Tryz.underlying24 rfl infoG4 ?_) | (refine wpList_store_row rfl 24 _ _ rfl R _ rfl rfl _ _ hres infoG4 (by rfl) (by simp [Value.oneCell']) ?_))
    exact bodyPost_ret (results_cell_row Tryz.results16 _ _ R _ _ _ _ rfl (setRow_heap _ _ _ _ _ _ hres) Tryz.underlying24 rfl infoG4) rfl ⟨_, _, _, _, rfl, by omega, at_setRow HA.out HL.out⟩
  · go_wp2_with fail
    refine (n_g i7.two.at_ 4 (by omega) (by omega)).mono ?_
    rintro e w8 ⟨j, rfl, hj, hA, hg⟩
    have i8 := i7.next hA hg
    clear i7 hA hg
    have hj4 : j = 0 ∨ j = 1 ∨ j = 2 ∨ j = 3 := by omega
    rcases hj4 with rfl | rfl | rfl | rfl
    · go_wp2_with fail
      refine (n_g i8.two.at_ 4 (by omega) (by omega)).mono ?_
      rintro e w9 ⟨m, rfl, hm, hA, hg⟩
      have i9 := i8.next hA hg
      clear i8 hA hg
      obtain ⟨⟨d0, d1, d2, d3⟩, f0, f1, f2, f3⟩ := i9.cells
      have i10 := i9.set0 (.int .i64 ((m : Int) - 1))
      clear i9
      have hrow := i10.row
      have hres := i10.two.row
      have HA : Hid (At w0 a len cap (w9.setCell ⟨G, 0, none⟩ (.int .i64 ((m : Int) - 1)))) := i10.two.at_
      have HL : Hid (w0.heap.size < R) := i10.two.lt
      clear i10
      go_wp2_with (first | (refine wpList_load_row rfl 24 _ rfl G rfl _ _ _ _ hrow Tryz.underlying24 rfl infoG4 ?_) | (refine wpList_store_row rfl 24 _ _ rfl R _ rfl rfl _ _ hres infoG4 (by rfl) (by simp [Value.oneCell']) ?_))
      exact bodyPost_ret (results_cell_row Tryz.results16 _ _ R _ _ _ _ rfl (setRow_heap _ _ _ _ _ _ hres) Tryz.underlying24 rfl infoG4) rfl ⟨_, _, _, _, rfl, by omega, at_setRow HA.out HL.out⟩
    · go_wp2_with fail
      have hL : w0.heap.size < w8.heap.size := i8.two.at_.1.lt
      have i8b := i8.up ((Below.refl w8.heap.size w8).alloc (Nat.le_refl _) (.cells #[.int .i64 (-1), .int .i64 200, .int .i64 201] 2))
      refine (n_g i8b.two.at_ 3 (by omega) (by omega)).mono ?_
      rintro e w9 ⟨m, rfl, hm, hA, hg⟩
      have i9 := i8b.next hA hg
      obtain ⟨x, hx⟩ := three_cell w8 (-1) 200 201 m hm
      have hxc := hg.cell hx (by simp; omega)
      have hGL : G < w8.heap.size := row_lt i8.row
      clear i8 i8b hA hg hx
      obtain ⟨⟨d0, d1, d2, d3⟩, f0, f1, f2, f3⟩ := i9.cells
      have n1 : ¬ w8.heap.size = G := by omega
      have n2 : ¬ G = w8.heap.size := by omega
      have i10 := i9.set1 (.int .i64 x)
      clear i9
      have hrow := i10.row
      have hres := i10.two.row
      have HA : Hid (At w0 a len cap (w9.setCell ⟨G, 1, none⟩ (.int .i64 x))) := i10.two.at_
      have HL : Hid (w0.heap.size < R) := i10.two.lt
      clear i10
      go_wp2_with (first | (refine wpList_load_row rfl 24 _ rfl G rfl _ _ _ _ hrow Tryz.underlying24 rfl infoG4 ?_) | (refine wpList_store_row rfl 24 _ _ rfl R _ rfl rfl _ _ hres infoG4 (by rfl) (by simp [Value.oneCell']) ?_))
      exact bodyPost_ret (results_cell_row Tryz.results16 _ _ R _ _ _ _ rfl (setRow_heap _ _ _ _ _ _ hres) Tryz.underlying24 rfl infoG4) rfl ⟨_, _, _, _, rfl, by omega, at_setRow HA.out HL.out⟩
    · go_wp2_with fail
      have hL : w0.heap.size < w8.heap.size := i8.two.at_.1.lt
      have i8b := i8.up ((Below.refl w8.heap.size w8).alloc (Nat.le_refl _) (.cells #[.int .i64 (-1), .int .i64 2000, .int .i64 2001] 2))
      refine (n_g i8b.two.at_ 3 (by omega) (by omega)).mono ?_
      rintro e w9 ⟨m, rfl, hm, hA, hg⟩
      have i9 := i8b.next hA hg
      obtain ⟨x, hx⟩ := three_cell w8 (-1) 2000 2001 m hm
      have hxc := hg.cell hx (by simp; omega)
      have hGL : G < w8.heap.size := row_lt i8.row
      clear i8 i8b hA hg hx
      obtain ⟨⟨d0, d1, d2, d3⟩, f0, f1, f2, f3⟩ := i9.cells
      have n1 : ¬ w8.heap.size = G := by omega
      have n2 : ¬ G = w8.heap.size := by omega
      have i10 := i9.set2 (.int .i64 x)
      clear i9
      have hrow := i10.row
      have hres := i10.two.row
      have HA : Hid (At w0 a len cap (w9.setCell ⟨G, 2, none⟩ (.int .i64 x))) := i10.two.at_
      have HL : Hid (w0.heap.size < R) := i10.two.lt
      clear i10
      go_wp2_with (first | (refine wpList_load_row rfl 24 _ rfl G rfl _ _ _ _ hrow Tryz.underlying24 rfl infoG4 ?_) | (refine wpList_store_row rfl 24 _ _ rfl R _ rfl rfl _ _ hres infoG4 (by rfl) (by simp [Value.oneCell']) ?_))
      exact bodyPost_ret (results_cell_row Tryz.results16 _ _ R _ _ _ _ rfl (setRow_heap _ _ _ _ _ _ hres) Tryz.underlying24 rfl infoG4) rfl ⟨_, _, _, _, rfl, by omega, at_setRow HA.out HL.out⟩
    · go_wp2_with fail
      refine (n_g i8.two.at_ 2 (by omega) (by omega)).mono ?_
      rintro e w9 ⟨m, rfl, hm, hA, hg⟩
      have i9 := i8.next hA hg
      clear i8 hA hg
      have hmk := zeros_make (800 + m) (by omega) w9
      have hcv := zeros_conv (800 + m) w9
      rw [show ((800 + m : Nat) : Int) = 800 + (m : Int) by omega] at hmk
      have hGL : G < w9.heap.size := row_lt i9.row
      have n1 : ¬ w9.heap.size = G := by omega
      have n2 : ¬ G = w9.heap.size := by omega
      have i9b := i9.up ((Below.refl w9.heap.size w9).alloc (Nat.le_refl _) (.cells (madeCells #[.int .u8 0] (800 + m)) 5))
      obtain ⟨⟨d0, d1, d2, d3⟩, f0, f1, f2, f3⟩ := i9b.cells
      have i10 := (i9.set3 (.string ⟨Array.replicate (800 + m) (0 : UInt8)⟩)).up ((Below.refl _ _).alloc (Nat.le_refl _) (.cells (madeCells #[.int .u8 0] (800 + m)) 5))
      clear i9 i9b
      have hrow := i10.row
      have hres := i10.two.row
      have HA : Hid (At w0 a len cap ((w9.setCell ⟨G, 3, none⟩ (.string ⟨Array.replicate (800 + m) (0 : UInt8)⟩)).alloc (.cells (madeCells #[.int .u8 0] (800 + m)) 5))) := i10.two.at_
      have HL : Hid (w0.heap.size < R) := i10.two.lt
      clear i10
      go_wp2_with (first | (refine wpList_load_row rfl 24 _ rfl G rfl _ _ _ _ hrow Tryz.underlying24 rfl infoG4 ?_) | (refine wpList_store_row rfl 24 _ _ rfl R _ rfl rfl _ _ hres infoG4 (by rfl) (by simp [Value.oneCell']) ?_))
      exact bodyPost_ret (results_cell_row Tryz.results16 _ _ R _ _ _ _ rfl (setRow_heap _ _ _ _ _ _ hres) Tryz.underlying24 rfl infoG4) rfl ⟨_, _, _, _, rfl, by simp [ByteArray.size]; omega, at_setRow HA.out HL.out⟩
end Go.Proofs.YtgchjinbnlclnaaGreatDoor.db
