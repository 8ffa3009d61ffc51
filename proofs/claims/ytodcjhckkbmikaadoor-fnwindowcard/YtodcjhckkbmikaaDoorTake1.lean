/-
  The program's small functions on grams in a window: which is too old, which is the newer, what a window's newest is. No condition but that counts are small numbers.
-/
import Derived.Test.YtodcjhckkbmikaaDoorWinR
import Derived.Test.YtodcjhckkbmikaaDoorWinT0
namespace Go.Proofs.YtodcjhckkbmikaaDoor.wi
open Go.ChangeShapes Go.WideShapes Go.ChangeAt Go.RowKit
open Classical
set_option linter.unusedVariables false

/-- a gram of an epoch and a count alone -/
abbrev gramV (e c : Int) : Value := .agg #[.int .i64 0, .int .i64 e, .int .i64 c, .string ⟨#[]⟩]
/-- a gram's cells -/
abbrev gramC (e c : Int) : Array Value := #[.int .i64 0, .int .i64 e, .int .i64 c, .string ⟨#[]⟩]
theorem infoG : (Tryd.prog.info? 45).map (·.size) = some 4 := by kernel_rfl
def Old (e c te tc : Int) : Prop := e < te ∨ e = te ∧ c < tc - 16
def Newer (e c e' c' : Int) : Prop := e' < e ∨ e = e' ∧ c' < c

set_option maxHeartbeats 4000000 in
theorem topOf_any (e t : Int) (v : Value) (w : World) :
    Calls Tryd.prog 25 #[.agg #[.int .i64 e, .int .i64 t, v]] w fun r w' => r = .returned (gramV e t) ∧ Below w.heap.size w w' := by
  have HB : Hid (Below w.heap.size w (w.alloc (.cells #[.int .i64 e, .int .i64 t, v] 25))) := (Below.refl _ _).alloc (Nat.le_refl _) _
  go_enter Tryd.func25, Tryd.ntmps25
  go_wp2
  exact bodyPost_ret (results_cell_row Tryd.results25 _ _ (w.heap.size + 1) _ _ _ _ rfl (heap_alloc2_new _ _ _) Tryd.underlying45 rfl infoG) rfl ⟨rfl, HB.out.alloc HB.out.size _⟩

set_option maxHeartbeats 4000000 in
theorem tooOld_any (e c te tc : Int) (w : World) (h1 : -1 ≤ tc) (h2 : tc ≤ 2000) :
    Calls Tryd.prog 24 #[gramV e c, gramV te tc] w fun r w' => r = .returned (.bool (decide (Old e c te tc))) ∧ Below w.heap.size w w' := by
  have HB : Hid (Below w.heap.size w ((w.alloc (.cells (gramC e c) 45)).alloc (.cells (gramC te tc) 45))) := ((Below.refl _ _).alloc (Nat.le_refl _) _).alloc (by simp) _
  by_cases ha : e < te
  · rw [decide_eq_true (show Old e c te tc from .inl ha)]
    go_enter Tryd.func24, Tryd.ntmps24
    go_wp2
    go_ret
    exact ⟨rfl, HB.out⟩
  · by_cases hb : e = te
    · subst hb
      by_cases hc : c < tc - 16
      · rw [decide_eq_true (show Old e c e tc from .inr ⟨rfl, hc⟩)]
        go_enter Tryd.func24, Tryd.ntmps24
        go_wp2
        go_ret
        exact ⟨rfl, HB.out⟩
      · rw [decide_eq_false (show ¬ Old e c e tc from fun h => h.elim (by omega) (fun h => hc h.2))]
        go_enter Tryd.func24, Tryd.ntmps24
        go_wp2
        go_ret
        exact ⟨rfl, HB.out⟩
    · rw [decide_eq_false (show ¬ Old e c te tc from fun h => h.elim ha (fun h => hb h.1))]
      have hb' : (e == te) = false := by simpa using hb
      go_enter Tryd.func24, Tryd.ntmps24
      go_wp2
      go_ret
      exact ⟨rfl, HB.out⟩

theorem heap_alloc3_new (w : World) (a b c : Obj) : (((w.alloc a).alloc b).alloc c).heap[w.heap.size + 1 + 1]? = some c := by
  have h := heap_alloc2_new (w.alloc a) b c
  rwa [show (w.alloc a).heap.size = w.heap.size + 1 by simp] at h
theorem below_alloc3 (w : World) (a b c : Obj) : Below w.heap.size w (((w.alloc a).alloc b).alloc c) := (((Below.refl _ _).alloc (Nat.le_refl _) _).alloc (by simp) _).alloc (by simp; omega) _
theorem newer_if {e c e' c' : Int} : (if Newer e c e' c' then gramV e c else gramV e' c') = gramV (if Newer e c e' c' then e else e') (if Newer e c e' c' then c else c') := by split <;> rfl
set_option maxHeartbeats 4000000 in
theorem newerOf_any (e c e' c' : Int) (w : World) :
    Calls Tryd.prog 27 #[gramV e c, gramV e' c'] w fun r w' => r = .returned (gramV (if Newer e c e' c' then e else e') (if Newer e c e' c' then c else c')) ∧ Below w.heap.size w w' := by
  by_cases ha : e' < e
  · have hN : Newer e c e' c' := .inl ha
    rw [if_pos hN, if_pos hN]
    go_enter Tryd.func27, Tryd.ntmps27
    go_wp2
    exact bodyPost_ret (results_cell_row Tryd.results27 _ _ (w.heap.size + 1 + 1) _ _ _ _ rfl (heap_alloc3_new _ _ _ _) Tryd.underlying45 rfl infoG) rfl ⟨rfl, below_alloc3 _ _ _ _⟩
  · by_cases hb : e = e'
    · subst hb
      by_cases hc : c' < c
      · have hN : Newer e c e c' := .inr ⟨rfl, hc⟩
        rw [if_pos hN, if_pos hN]
        go_enter Tryd.func27, Tryd.ntmps27
        go_wp2
        exact bodyPost_ret (results_cell_row Tryd.results27 _ _ (w.heap.size + 1 + 1) _ _ _ _ rfl (heap_alloc3_new _ _ _ _) Tryd.underlying45 rfl infoG) rfl ⟨rfl, below_alloc3 _ _ _ _⟩
      · have hN : ¬ Newer e c e c' := fun h => h.elim (by omega) (fun h => hc h.2)
        rw [if_neg hN, if_neg hN]
        go_enter Tryd.func27, Tryd.ntmps27
        go_wp2
        exact bodyPost_ret (results_cell_row Tryd.results27 _ _ (w.heap.size + 1 + 1) _ _ _ _ rfl (heap_alloc3_new _ _ _ _) Tryd.underlying45 rfl infoG) rfl ⟨rfl, below_alloc3 _ _ _ _⟩
    · have hN : ¬ Newer e c e' c' := fun h => h.elim ha (fun h => hb h.1)
      have hb' : (e == e') = false := by simpa using hb
      rw [if_neg hN, if_neg hN]
      go_enter Tryd.func27, Tryd.ntmps27
      go_wp2
      exact bodyPost_ret (results_cell_row Tryd.results27 _ _ (w.heap.size + 1 + 1) _ _ _ _ rfl (heap_alloc3_new _ _ _ _) Tryd.underlying45 rfl infoG) rfl ⟨rfl, below_alloc3 _ _ _ _⟩
end Go.Proofs.YtodcjhckkbmikaaDoor.wi
