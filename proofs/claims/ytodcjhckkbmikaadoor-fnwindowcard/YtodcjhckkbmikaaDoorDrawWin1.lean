/-
  A drawn window: whatever the bytes, two numbers and a slice that is owned; no old block turns. No condition.
-/
import Derived.Test.YtodcjhckkbmikaaDoorDrawN
import Derived.Test.YtodcjhckkbmikaaDoorTakeM4
namespace Go.Proofs.YtodcjhckkbmikaaDoor.dn
open Go.ChangeShapes Go.WideShapes Go.ChangeAt Go.RowKit
open Go.Proofs.YtodcjhckkbmikaaDoor.dr
open Go.Proofs.YtodcjhckkbmikaaDoor.wi (heap_lt wp_w calls_w infoW infoWO takeM_any takeA OutIs SliceIs row_up row_le row_shape win_cells)
open Classical
set_option linter.unusedVariables false

theorem knum {k : Nat} (h : 0 < k) : Value.int .i64 ((k : Int) - 1) = .int .i64 ((k - 1 : Nat) : Int) := by rw [show ((k - 1 : Nat) : Int) = (k : Int) - 1 by omega]
theorem int_not_win : (2 : TypeId) ≠ 25 := by decide
theorem int_not_out : (2 : TypeId) ≠ 29 := by decide
/-- an owned slice of numbers does not lie in another row -/
theorem own_apart {u : World} {base : Nat} {v : Value} {n : Nat} {xs : List Value} (h : u.ownsRow base 2 1 v n xs) {Q : Nat} {cs : Array Value} {T : TypeId} (hT : (2 : TypeId) ≠ T) (hQ : u.heap[Q]? = some (.cells cs T (0, 0))) : v.ownBlock ≠ some Q := by
  intro he
  rcases h.2 with ⟨rfl, _⟩ | ⟨g, cap, cur, rfl, _, hg, _⟩
  · simp [Value.ownBlock] at he
  · have hgq : g = Q := by simpa [Value.ownBlock] using he
    subst hgq
    rw [hg] at hQ
    simp only [Option.some.injEq, Obj.cells.injEq] at hQ
    exact hT hQ.2.1
theorem own_slice {u : World} {base : Nat} {v : Value} {s : List Int} (h : u.ownsRow base 2 1 v s.length (s.map (Value.int .i64))) : SliceIs u v s := by
  rcases h.2 with ⟨rfl, h0⟩ | ⟨g, cap, cur, rfl, _, hg, h2, h3, h4, h5⟩
  · have : s = [] := List.length_eq_zero_iff.1 h0
    subst this
    exact .inl ⟨_, _, rfl, rfl⟩
  · refine .inr ⟨g, 0, cap, heap_lt hg, rfl, fun j hj => ?_⟩
    have e1 : cur.toList[j]? = some (.int .i64 (s.getD j 0)) := by
      have := congrArg (fun z => z[j]?) h5
      simp only [Nat.mul_one, List.getElem?_take, if_pos hj, List.getElem?_map] at this
      rw [this]
      simp [List.getD, List.getElem?_eq_getElem hj]
    rw [Array.getElem?_toList] at e1
    simp [World.cell?, hg, e1]

structure InDw (w0 : World) (a : Option Addr) (len cap R Q : Nat) (e t : Int) (v : Value) (s : List Int) (u : World) : Prop where
  at_ : At w0 a len cap u
  res : u.heap[R]? = some (.cells #[.int .i64 0, .int .i64 0, .slice none 0 0] 25 (0, 0))
  win : u.heap[Q]? = some (.cells #[.int .i64 e, .int .i64 t, v] 25 (0, 0))
  row : u.ownsRow (w0.heap.size + 1) 2 1 v s.length (s.map (Value.int .i64))
  lt1 : w0.heap.size < R
  lt2 : R < Q
  short : s.length ≤ 1000000
theorem InDw.next {w0 u u' : World} {a : Option Addr} {len cap R Q : Nat} {e t : Int} {v : Value} {s : List Int} (h : InDw w0 a len cap R Q e t v s u) (hA : At w0 a len cap u') (hg : u.grownBy u' (some w0.heap.size)) : InDw w0 a len cap R Q e t v s u' := by
  have h1 := h.lt1
  have h2 := h.lt2
  refine ⟨hA, (hg.block _ (row_lt h.res) (by simp; omega)).trans h.res, (hg.block _ (row_lt h.win) (by simp; omega)).trans h.win, h.row.kept hg (.inr fun he => ?_), h.lt1, h.lt2, h.short⟩
  have := (World.ownsRow.lt h.row _ he).1
  omega
theorem InDw.up {w0 u u' : World} {a : Option Addr} {len cap R Q : Nat} {e t : Int} {v : Value} {s : List Int} (h : InDw w0 a len cap R Q e t v s u) (hb : Below u.heap.size u u') : InDw w0 a len cap R Q e t v s u' :=
  ⟨At.up h.at_ hb, (hb.block _ (row_lt h.res)).trans h.res, (hb.block _ (row_lt h.win)).trans h.win, row_up h.row hb, h.lt1, h.lt2, h.short⟩
theorem InDw.drew {w0 u : World} {a : Option Addr} {len cap R Q : Nat} {e t : Int} {v : Value} {s : List Int} (h : InDw w0 a len cap R Q e t v s u) : InDw w0 a len cap R Q e t v s u.drew := ⟨At.drew h.at_, h.res, h.win, h.row, h.lt1, h.lt2, h.short⟩
theorem InDw.cells {w0 u : World} {a : Option Addr} {len cap R Q : Nat} {e t : Int} {v : Value} {s : List Int} (h : InDw w0 a len cap R Q e t v s u) : (u.cell? ⟨Q, 0, none⟩ = some (.int .i64 e) ∧ u.cell? ⟨Q, 1, none⟩ = some (.int .i64 t) ∧ u.cell? ⟨Q, 2, none⟩ = some v) ∧ (u.frozen? ⟨Q, 0, none⟩ = false ∧ u.frozen? ⟨Q, 1, none⟩ = false ∧ u.frozen? ⟨Q, 2, none⟩ = false) := by
  refine ⟨⟨?_, ?_, ?_⟩, frozen_of_row _ _ _ _ _ h.win, frozen_of_row _ _ _ _ _ h.win, frozen_of_row _ _ _ _ _ h.win⟩ <;> simp [World.cell?, h.win]

theorem InDw.short' {w0 u : World} {a : Option Addr} {len cap R Q : Nat} {e t : Int} {v : Value} {s : List Int} (h : InDw w0 a len cap R Q e t v s u) : s.length ≤ maxLen := Nat.le_trans h.short (by decide)
theorem InDw.base_le {w0 u : World} {a : Option Addr} {len cap R Q : Nat} {e t : Int} {v : Value} {s : List Int} (h : InDw w0 a len cap R Q e t v s u) : w0.heap.size + 1 ≤ u.heap.size := h.at_.1.lt
/-- and an answer's row -/
structure InDz (w0 : World) (a : Option Addr) (len cap R Q : Nat) (e t : Int) (v : Value) (s : List Int) (y : Nat) (e2 t2 : Int) (v2 : Value) (s2 : List Int) (c2 : Int) (u : World) : Prop where
  base : InDw w0 a len cap R Q e t v s u
  out : u.heap[y]? = some (.cells #[.int .i64 e2, .int .i64 t2, v2, .int .i64 c2] 29 (0, 0))
  row2 : u.ownsRow (w0.heap.size + 1) 2 1 v2 s2.length (s2.map (Value.int .i64))
  lt : Q < y
  short2 : s2.length ≤ 1000000
theorem InDz.next {w0 u u' : World} {a : Option Addr} {len cap R Q : Nat} {e t : Int} {v : Value} {s : List Int} {y : Nat} {e2 t2 : Int} {v2 : Value} {s2 : List Int} {c2 : Int} (h : InDz w0 a len cap R Q e t v s y e2 t2 v2 s2 c2 u) (hA : At w0 a len cap u') (hg : u.grownBy u' (some w0.heap.size)) : InDz w0 a len cap R Q e t v s y e2 t2 v2 s2 c2 u' := by
  have h1 := h.base.lt1
  have h2 := h.base.lt2
  have h3 := h.lt
  refine ⟨h.base.next hA hg, (hg.block _ (row_lt h.out) (by simp; omega)).trans h.out, h.row2.kept hg (.inr fun he => ?_), h.lt, h.short2⟩
  have := (World.ownsRow.lt h.row2 _ he).1
  omega
theorem InDz.up {w0 u u' : World} {a : Option Addr} {len cap R Q : Nat} {e t : Int} {v : Value} {s : List Int} {y : Nat} {e2 t2 : Int} {v2 : Value} {s2 : List Int} {c2 : Int} (h : InDz w0 a len cap R Q e t v s y e2 t2 v2 s2 c2 u) (hb : Below u.heap.size u u') : InDz w0 a len cap R Q e t v s y e2 t2 v2 s2 c2 u' := ⟨h.base.up hb, (hb.block _ (row_lt h.out)).trans h.out, row_up h.row2 hb, h.lt, h.short2⟩
theorem InDz.drew {w0 u : World} {a : Option Addr} {len cap R Q : Nat} {e t : Int} {v : Value} {s : List Int} {y : Nat} {e2 t2 : Int} {v2 : Value} {s2 : List Int} {c2 : Int} (h : InDz w0 a len cap R Q e t v s y e2 t2 v2 s2 c2 u) : InDz w0 a len cap R Q e t v s y e2 t2 v2 s2 c2 u.drew := ⟨h.base.drew, h.out, h.row2, h.lt, h.short2⟩
theorem InDz.start {w0 u : World} {a : Option Addr} {len cap R Q : Nat} {e t : Int} {v : Value} {s : List Int} (h : InDw w0 a len cap R Q e t v s u) : InDz w0 a len cap R Q e t v s u.heap.size 0 0 (.slice none 0 0) [] 0 (u.alloc (.cells #[.int .i64 0, .int .i64 0, .slice none 0 0, .int .i64 0] 29)) :=
  ⟨h.up ((Below.refl _ _).alloc (Nat.le_refl _) _), heap_alloc_new _ _, ⟨rfl, .inl ⟨rfl, rfl⟩⟩, row_lt h.win, by simp⟩
theorem InDz.cells {w0 u : World} {a : Option Addr} {len cap R Q : Nat} {e t : Int} {v : Value} {s : List Int} {y : Nat} {e2 t2 : Int} {v2 : Value} {s2 : List Int} {c2 : Int} (h : InDz w0 a len cap R Q e t v s y e2 t2 v2 s2 c2 u) : (u.cell? ⟨y, 0, none⟩ = some (.int .i64 e2) ∧ u.cell? ⟨y, 1, none⟩ = some (.int .i64 t2) ∧ u.cell? ⟨y, 2, none⟩ = some v2 ∧ u.cell? ⟨y, 3, none⟩ = some (.int .i64 c2)) ∧ (u.frozen? ⟨y, 0, none⟩ = false ∧ u.frozen? ⟨y, 1, none⟩ = false ∧ u.frozen? ⟨y, 2, none⟩ = false ∧ u.frozen? ⟨y, 3, none⟩ = false) := by
  refine ⟨⟨?_, ?_, ?_, ?_⟩, frozen_of_row _ _ _ _ _ h.out, frozen_of_row _ _ _ _ _ h.out, frozen_of_row _ _ _ _ _ h.out, frozen_of_row _ _ _ _ _ h.out⟩ <;> simp [World.cell?, h.out]
theorem grown4 {u : World} {q : Nat} {x y z k : Value} : u.grownBy ((((u.setCell ⟨q, 0, none⟩ x).setCell ⟨q, 1, none⟩ y).setCell ⟨q, 2, none⟩ z).setCell ⟨q, 3, none⟩ k) (some q) := by
  refine ⟨rfl, rfl, rfl, by simp [World.setCell], fun j _ hne => ?_⟩
  have hk : j ≠ q := fun h => hne (by rw [h])
  rw [heap_setCell_other _ _ _ _ hk, heap_setCell_other _ _ _ _ hk, heap_setCell_other _ _ _ _ hk, heap_setCell_other _ _ _ _ hk]
theorem grown3 {u : World} {q : Nat} {x y z : Value} : u.grownBy (((u.setCell ⟨q, 0, none⟩ x).setCell ⟨q, 1, none⟩ y).setCell ⟨q, 2, none⟩ z) (some q) := by
  refine ⟨rfl, rfl, rfl, by simp [World.setCell], fun j _ hne => ?_⟩
  have hk : j ≠ q := fun h => hne (by rw [h])
  rw [heap_setCell_other _ _ _ _ hk, heap_setCell_other _ _ _ _ hk, heap_setCell_other _ _ _ _ hk]
theorem InDw.kept {w0 u u' : World} {a : Option Addr} {len cap R Q y : Nat} {e t : Int} {v : Value} {s : List Int} (h : InDw w0 a len cap R Q e t v s u) (hA : At w0 a len cap u') (hg : u.grownBy u' (some y)) (hy : Q < y) (hv : v.ownBlock ≠ some y) : InDw w0 a len cap R Q e t v s u' := by
  have h2 := h.lt2
  exact ⟨hA, (hg.block _ (row_lt h.res) (by simp; omega)).trans h.res, (hg.block _ (row_lt h.win) (by simp; omega)).trans h.win, h.row.kept hg (.inr hv), h.lt1, h.lt2, h.short⟩
/-- the answer is put into its row -/
theorem InDz.put {w0 u : World} {a : Option Addr} {len cap R Q : Nat} {e t : Int} {v : Value} {s : List Int} {y : Nat} {e2 t2 : Int} {v2 : Value} {s2 : List Int} {c2 : Int} (h : InDz w0 a len cap R Q e t v s y e2 t2 v2 s2 c2 u) {e3 t3 : Int} {v3 : Value} {s3 : List Int} {c3 : Int} (hr : u.ownsRow (w0.heap.size + 1) 2 1 v3 s3.length (s3.map (Value.int .i64))) (hs : s3.length ≤ 1000000) :
    InDz w0 a len cap R Q e t v s y e3 t3 v3 s3 c3 ((((u.setCell ⟨y, 0, none⟩ (.int .i64 e3)).setCell ⟨y, 1, none⟩ (.int .i64 t3)).setCell ⟨y, 2, none⟩ v3).setCell ⟨y, 3, none⟩ (.int .i64 c3)) := by
  have h1 := h.base.lt1
  have h2 := h.base.lt2
  have h3 := h.lt
  have hl : w0.heap.size < y := by omega
  refine ⟨h.base.kept (At.set (At.set (At.set (At.set h.base.at_ hl) hl) hl) hl) grown4 h.lt (own_apart h.base.row int_not_out h.out), ?_, hr.kept grown4 (.inr (own_apart hr int_not_out h.out)), h.lt, hs⟩
  have k1 := heap_setCell_same u y 0 _ _ (.int .i64 e3) h.out
  have k2 := heap_setCell_same _ y 1 _ _ (.int .i64 t3) k1
  have k3 := heap_setCell_same _ y 2 _ _ v3 k2
  have k4 := heap_setCell_same _ y 3 _ _ (.int .i64 c3) k3
  exact k4
/-- the window is the answer's -/
theorem InDz.take {w0 u : World} {a : Option Addr} {len cap R Q : Nat} {e t : Int} {v : Value} {s : List Int} {y : Nat} {e2 t2 : Int} {v2 : Value} {s2 : List Int} {c2 : Int} (h : InDz w0 a len cap R Q e t v s y e2 t2 v2 s2 c2 u) :
    InDw w0 a len cap R Q e2 t2 v2 s2 (((u.setCell ⟨Q, 0, none⟩ (.int .i64 e2)).setCell ⟨Q, 1, none⟩ (.int .i64 t2)).setCell ⟨Q, 2, none⟩ v2) := by
  have h1 := h.base.lt1
  have h2 := h.base.lt2
  have hl : w0.heap.size < Q := by omega
  refine ⟨At.set (At.set (At.set h.base.at_ hl) hl) hl, ?_, ?_, h.row2.kept grown3 (.inr (own_apart h.row2 int_not_win h.base.win)), h.base.lt1, h.base.lt2, h.short2⟩
  · exact (grown3.block _ (row_lt h.base.res) (by simp; omega)).trans h.base.res
  · have k1 := heap_setCell_same u Q 0 _ _ (.int .i64 e2) h.base.win
    have k2 := heap_setCell_same _ Q 1 _ _ (.int .i64 t2) k1
    have k3 := heap_setCell_same _ Q 2 _ _ v2 k2
    exact k3
theorem four_cell (u : World) (x y z q : Int) (v : Nat) (hv : v < 4) :
    ∃ n : Int, (u.alloc (.cells #[.int .i64 x, .int .i64 y, .int .i64 z, .int .i64 q] 2)).cell? ⟨u.heap.size, v, none⟩ = some (.int .i64 n) := by
  match v, hv with
  | 0, _ => exact ⟨x, by simp⟩
  | 1, _ => exact ⟨y, by simp⟩
  | 2, _ => exact ⟨z, by simp⟩
  | 3, _ => exact ⟨q, by simp⟩
theorem grown1 {u : World} {q i : Nat} {x : Value} : u.grownBy (u.setCell ⟨q, i, none⟩ x) (some q) :=
  ⟨rfl, rfl, rfl, by simp [World.setCell], fun j _ hne => heap_setCell_other _ _ _ _ (fun h => hne (by rw [h]))⟩
theorem InDw.set0 {w0 u : World} {a : Option Addr} {len cap R Q : Nat} {e t : Int} {v : Value} {s : List Int} (h : InDw w0 a len cap R Q e t v s u) (x : Int) : InDw w0 a len cap R Q x t v s (u.setCell ⟨Q, 0, none⟩ (.int .i64 x)) := by
  have h1 := h.lt1
  have h2 := h.lt2
  exact ⟨At.set h.at_ (by omega), (grown1.block _ (row_lt h.res) (by simp; omega)).trans h.res, heap_setCell_same u Q 0 _ _ (.int .i64 x) h.win, h.row.kept grown1 (.inr (own_apart h.row int_not_win h.win)), h.lt1, h.lt2, h.short⟩
theorem InDw.set1 {w0 u : World} {a : Option Addr} {len cap R Q : Nat} {e t : Int} {v : Value} {s : List Int} (h : InDw w0 a len cap R Q e t v s u) (x : Int) : InDw w0 a len cap R Q e x v s (u.setCell ⟨Q, 1, none⟩ (.int .i64 x)) := by
  have h1 := h.lt1
  have h2 := h.lt2
  exact ⟨At.set h.at_ (by omega), (grown1.block _ (row_lt h.res) (by simp; omega)).trans h.res, heap_setCell_same u Q 1 _ _ (.int .i64 x) h.win, h.row.kept grown1 (.inr (own_apart h.row int_not_win h.win)), h.lt1, h.lt2, h.short⟩
/-- an owned slice beside a row that is written -/
theorem row_setOther {u : World} {base : Nat} {v : Value} {n : Nat} {xs : List Value} (h : u.ownsRow base 2 1 v n xs) {R : Nat} {cs cs' : Array Value} {T : TypeId} (hT : (2 : TypeId) ≠ T) (hR : u.heap[R]? = some (.cells cs T (0, 0))) : (u.setRow R cs').ownsRow base 2 1 v n xs := by
  have ha := own_apart h hT hR
  refine ⟨h.1, ?_⟩
  rcases h.2 with h' | ⟨g, cap, cur, rfl, h2, h3, h4⟩
  · exact .inl h'
  · exact .inr ⟨g, cap, cur, rfl, h2, (setRow_other _ _ _ _ (fun hh => ha (by rw [hh]; rfl))).trans h3, h4⟩
theorem At.kept {w0 u u' : World} {a : Option Addr} {len cap : Nat} {row : Option Nat} (h : At w0 a len cap u) (hg : u.grownBy u' row) (hrow : ∀ k, row = some k → w0.heap.size < k) : At w0 a len cap u' := by
  have hb : Below w0.heap.size u u' := (Below.refl _ _).grown hg h.2.1.size (fun k hk => Nat.le_of_lt (hrow k hk))
  exact ⟨h.1.kept (hg.block _ h.1.lt (fun he => by have := hrow _ he.symm; omega)), h.2.1.trans hb, h.2.2.below hb⟩
/-- where one number more lies in the slice -/
structure InDf (w0 : World) (a : Option Addr) (len cap R Q : Nat) (e t : Int) (v : Value) (s : List Int) (u : World) : Prop where
  at_ : At w0 a len cap u
  res : u.heap[R]? = some (.cells #[.int .i64 0, .int .i64 0, .slice none 0 0] 25 (0, 0))
  win : u.heap[Q]? = some (.cells #[.int .i64 e, .int .i64 t, v] 25 (0, 0))
  row : u.ownsRow (w0.heap.size + 1) 2 1 v s.length (s.map (Value.int .i64))
  lt1 : w0.heap.size < R
structure InDa (w0 : World) (a : Option Addr) (len cap R Q : Nat) (e t : Int) (v v' : Value) (s' : List Int) (u : World) : Prop where
  at_ : At w0 a len cap u
  res : u.heap[R]? = some (.cells #[.int .i64 0, .int .i64 0, .slice none 0 0] 25 (0, 0))
  win : u.heap[Q]? = some (.cells #[.int .i64 e, .int .i64 t, v] 25 (0, 0))
  row : u.ownsRow (w0.heap.size + 1) 2 1 v' s'.length (s'.map (Value.int .i64))
  lt1 : w0.heap.size < R
  lt2 : R < Q
theorem InDw.append {w0 u u' : World} {a : Option Addr} {len cap R Q : Nat} {e t : Int} {v : Value} {s : List Int} (h : InDw w0 a len cap R Q e t v s u) {v' : Value} {x : Int} (hg : u.grownBy u' v.ownBlock) (hr : u'.ownsRow (w0.heap.size + 1) 2 1 v' (s.length + 1) (s.map (Value.int .i64) ++ [.int .i64 x])) : InDa w0 a len cap R Q e t v v' (s ++ [x]) u' :=
  ⟨At.kept h.at_ hg (fun k hk => (World.ownsRow.lt h.row k hk).1), (hg.block _ (row_lt h.res) (fun he => own_apart h.row int_not_win h.res he.symm)).trans h.res, (hg.block _ (row_lt h.win) (fun he => own_apart h.row int_not_win h.win he.symm)).trans h.win, by simpa using hr, h.lt1, h.lt2⟩
theorem InDa.cells {w0 u : World} {a : Option Addr} {len cap R Q : Nat} {e t : Int} {v v' : Value} {s' : List Int} (h : InDa w0 a len cap R Q e t v v' s' u) : (u.cell? ⟨Q, 0, none⟩ = some (.int .i64 e) ∧ u.cell? ⟨Q, 1, none⟩ = some (.int .i64 t) ∧ u.cell? ⟨Q, 2, none⟩ = some v) ∧ (u.frozen? ⟨Q, 0, none⟩ = false ∧ u.frozen? ⟨Q, 1, none⟩ = false ∧ u.frozen? ⟨Q, 2, none⟩ = false) := by
  refine ⟨⟨?_, ?_, ?_⟩, frozen_of_row _ _ _ _ _ h.win, frozen_of_row _ _ _ _ _ h.win, frozen_of_row _ _ _ _ _ h.win⟩ <;> simp [World.cell?, h.win]
theorem InDa.put {w0 u : World} {a : Option Addr} {len cap R Q : Nat} {e t : Int} {v v' : Value} {s' : List Int} (h : InDa w0 a len cap R Q e t v v' s' u) : InDf w0 a len cap R Q e t v' s' (u.setCell ⟨Q, 2, none⟩ v') := by
  have h1 := h.lt1
  have h2 := h.lt2
  exact ⟨At.set h.at_ (by omega), (grown1.block _ (row_lt h.res) (by simp; omega)).trans h.res, heap_setCell_same u Q 2 _ _ v' h.win, h.row.kept grown1 (.inr (own_apart h.row int_not_win h.win)), h.lt1⟩
theorem one_cell (u : World) (x : Value) : ∀ (j : Nat) (z : Value), [x][j]? = some z → (u.alloc (.cells #[x] 2)).cell? ((⟨u.heap.size, 0, none⟩ : Addr).add j) = some z := by
  intro j z hj
  match j with
  | 0 => simp at hj; subst hj; simp [Addr.add]
  | k + 1 => simp at hj
theorem endL_length (lo T : Int) (s : List Int) : (wi.endL lo T s).length ≤ s.length + 2 := by
  have h := wi.stepL_length lo T s [] (decide (lo < 0))
  have h3 : (if decide (lo < 0) then 0 else 1) ≤ 1 := by split <;> omega
  simp only [List.length_nil, Nat.zero_add] at h
  unfold wi.endL
  generalize wi.stepL lo T [] (decide (lo < 0)) s = P at h
  obtain ⟨l, d⟩ := P
  simp only at h ⊢
  cases d
  · have := wi.putL_length l lo T
    simp only [Bool.false_eq_true, if_false]
    omega
  · simp only [if_true]
    omega
theorem takeA_len (e t : Int) (s : List Int) (ep c : Int) : (takeA e t s ep c).1.2.2.length ≤ 1000000 := by
  by_cases h : wi.RightW e t s ∧ wi.RightG 0 ep c 0
  · by_cases ho : wi.Old ep c e t
    · rw [wi.takeA_old h ho]; simp
    · by_cases ht : wi.Told e t s ep c
      · rw [wi.takeA_there h ho ht]; simp
      · by_cases hl : e < ep
        · rw [wi.takeA_new h ho ht hl]; simp
        · rw [wi.takeA_same h ho ht hl]
          have h1 := endL_length (min c t) (max c t) s
          rw [wi.endL_eq] at h1
          have h2 := h.1.2.2.1
          simp only
          omega
  · rw [wi.takeA_form h]; simp
/-- an answer of the model's WindowTake, its parts in letters -/
theorem take_any (e t : Int) (v : Value) (s : List Int) (ep c : Int) (u : World) (hs : s.length ≤ maxLen) (hv : SliceIs u v s) :
    Calls Tryd.prog 7 #[.agg #[.int .i64 e, .int .i64 t, v], .int .i64 ep, .int .i64 c] u fun r w' => Below u.heap.size u w' ∧ ∃ (e2 t2 : Int) (p2 : Option Addr) (n2 c2' : Nat) (s2 : List Int) (c2 : Int), r = .returned (.agg #[.int .i64 e2, .int .i64 t2, .slice p2 n2 c2', .int .i64 c2]) ∧ s2.length ≤ 1000000 ∧ w'.ownsRow u.heap.size 2 1 (.slice p2 n2 c2') s2.length (s2.map (Value.int .i64)) := by
  refine (takeM_any e t v s ep c u hs hv).mono ?_
  rintro r w' ⟨hb, v', rfl, hrow⟩
  obtain ⟨p, k, cp, rfl⟩ := row_shape hrow
  exact ⟨hb, _, _, p, k, cp, _, _, rfl, takeA_len e t s ep c, hrow⟩

end Go.Proofs.YtodcjhckkbmikaaDoor.dn
