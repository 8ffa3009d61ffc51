/-
  Drawn numbers, and what stays beside a source at work. No condition.
-/
import Derived.Test.YtkghbabnchofpaaDoorDraw0
import Derived.Laws.CopyOwn
namespace Go.Proofs.YtkghbabnchofpaaDoor.dn
open Go.ChangeShapes Go.WideShapes Go.ChangeAt Go.RowKit
open Go.Proofs.YtkghbabnchofpaaDoor.dr
set_option linter.unusedVariables false

theorem At.alloc {w0 u : World} {a : Option Addr} {len cap : Nat} (h : At w0 a len cap u) (o : Obj) : At w0 a len cap (u.alloc o) := by
  have hb : Below w0.heap.size u (u.alloc o) := (Below.refl _ _).alloc h.2.1.size _
  exact ⟨h.1.kept (Below.heap_alloc _ _ _ h.1.lt), h.2.1.trans hb, h.2.2.below hb⟩
theorem At.drew {w0 u : World} {a : Option Addr} {len cap : Nat} (h : At w0 a len cap u) : At w0 a len cap u.drew := ⟨h.1, h.2.1.drew, h.2.2.below (show Below w0.heap.size u u.drew from (Below.refl _ _).drew)⟩
theorem At.up {w0 u u' : World} {a : Option Addr} {len cap : Nat} (h : At w0 a len cap u) (hb : Below u.heap.size u u') : At w0 a len cap u' :=
  ⟨h.1.kept (hb.block _ h.1.lt), h.2.1.trans (hb.mono h.2.1.size), h.2.2.below (hb.mono h.2.1.size)⟩
/-- a number below the most; no block but the source's turns -/
theorem n_g {w0 u : World} {a : Option Addr} {len cap : Nat} (h : At w0 a len cap u) (most : Nat) (m0 : 1 ≤ most) (m1 : most ≤ 1048576) :
    Calls Tryd.prog 28 #[.pointer (some ⟨w0.heap.size, 0, none⟩), .int .i64 (most : Int)] u fun e w' => ∃ k : Nat, e = .returned (.int .i64 (k : Int)) ∧ k < most ∧ At w0 a len cap w' ∧ u.grownBy w' (some w0.heap.size) := by
  refine (n_any _ _ a len cap most _ h.1 h.2.2 (by omega) (by omega)).mono ?_
  rintro e w' ⟨v, rfl, v0, v1, v2, hS, hg⟩
  obtain ⟨k, rfl⟩ : ∃ k : Nat, v = (k : Int) := ⟨v.toNat, by omega⟩
  refine ⟨k, rfl, ?_, h.next hS hg, hg⟩
  rcases Nat.lt_or_ge 1 most with h1 | h1
  · have := v1 (by omega); omega
  · have := v2 (by omega); omega
theorem one_g {w0 u : World} {a : Option Addr} {len cap : Nat} (h : At w0 a len cap u) (of_ : Int) (m0 : -9223372036854775808 ≤ of_) (m1 : of_ ≤ 9223372036854775807) :
    Calls Tryd.prog 26 #[.pointer (some ⟨w0.heap.size, 0, none⟩), .int .i64 of_] u fun e w' => ∃ v : Bool, e = .returned (.bool v) ∧ At w0 a len cap w' ∧ u.grownBy w' (some w0.heap.size) :=
  (one_any _ _ a len cap of_ u h.1 h.2.2 m0 m1).mono fun e w' ⟨v, he, hS, hg⟩ => ⟨v, he, h.next hS hg, hg⟩
theorem row_lt {u : World} {g : Nat} {o : Obj} (h : u.heap[g]? = some o) : g < u.heap.size := (Array.getElem?_eq_some_iff.1 h).1
theorem At.set {w0 u : World} {a : Option Addr} {len cap G i : Nat} {v : Value} (h : At w0 a len cap u) (hG : w0.heap.size < G) : At w0 a len cap (u.setCell ⟨G, i, none⟩ v) := by
  have hb : Below w0.heap.size u (u.setCell ⟨G, i, none⟩ v) := (Below.refl _ _).setCell (Nat.le_of_lt hG) _
  exact ⟨h.1.kept (heap_setCell_other _ _ _ _ (by show w0.heap.size ≠ G; omega)), h.2.1.trans hb, h.2.2.below hb⟩
/-- the answer is put into its row -/
theorem at_setRow {w0 u : World} {a : Option Addr} {len cap R : Nat} {cs : Array Value} (h : At w0 a len cap u) (hR : w0.heap.size < R) : At w0 a len cap (u.setRow R cs) := by
  have hb : Below w0.heap.size u (u.setRow R cs) := below_setRow (Below.refl _ _) (Nat.le_of_lt hR) _
  exact ⟨h.1.kept (setRow_other _ _ _ _ (by omega)), h.2.1.trans hb, h.2.2.below hb⟩
/-- one of three numbers -/
theorem three_cell (u : World) (x y z : Int) (v : Nat) (hv : v < 3) :
    ∃ n : Int, (u.alloc (.cells #[.int .i64 x, .int .i64 y, .int .i64 z] 2)).cell? ⟨u.heap.size, v, none⟩ = some (.int .i64 n) := by
  match v, hv with
  | 0, _ => exact ⟨x, by simp⟩
  | 1, _ => exact ⟨y, by simp⟩
  | 2, _ => exact ⟨z, by simp⟩
/-- the bytes that are drawn from, later -/
theorem codes_later {w u : World} {a : Option Addr} {len : Nat} (h : Codes w w.heap.size a len) (hb : Below w.heap.size w u) : Codes u u.heap.size a len := by
  obtain ⟨hl, h0 | ⟨b, off, e, hB, hc⟩⟩ := h.below hb
  · exact ⟨hl, .inl h0⟩
  · exact ⟨hl, .inr ⟨b, off, e, Nat.lt_of_lt_of_le hB hb.size, hc⟩⟩
/-- what is known where the source is made: a row ahead of it -/
structure Ahead (w : World) (o : Obj) (a : Option Addr) (len : Nat) (W : World) : Prop where
  below : Below w.heap.size w W
  row : W.heap[w.heap.size]? = some o
  codes : Codes W W.heap.size a len
theorem ahead_start {w : World} {a : Option Addr} {len : Nat} (o : Obj) (h : Codes w w.heap.size a len) : Ahead w o a len (w.alloc o) := by
  have hb : Below w.heap.size w (w.alloc o) := (Below.refl _ _).alloc (Nat.le_refl _) o
  refine ⟨hb, heap_alloc_new _ _, ?_⟩
  obtain ⟨hl, h0 | ⟨b, off, e, hB, hc⟩⟩ := h.below hb
  · exact ⟨hl, .inl h0⟩
  · exact ⟨hl, .inr ⟨b, off, e, by rw [World.size_alloc]; omega, hc⟩⟩
theorem Ahead.at_ {w W u : World} {o : Obj} {a : Option Addr} {len cap : Nat} (h : Ahead w o a len W) (hA : At W a len cap u) : Below w.heap.size w u ∧ u.heap[w.heap.size]? = some o :=
  ⟨h.below.trans (hA.2.1.mono h.below.size), (hA.2.1.block _ (row_lt h.row)).trans h.row⟩
end Go.Proofs.YtkghbabnchofpaaDoor.dn
