/-
  What the law on deltas asks of the model: plain words, and its helper. No condition.
-/
import Derived.Test.YtmbeanimjmfddaaStDr4
import Derived.Test.YtmbeanimjmfddaaStRH
namespace Go.Proofs.Ytmbeanimjmfddaa.st
open Go.ChangeShapes Go.WideShapes Go.ChangeAt Go.RowKit
open Go.Proofs.Ytmbeanimjmfddaa.wi (heap_lt calls_w wp_w)
open Classical
set_option linter.unusedVariables false

theorem HearV.more {n : Int} {t : ByteArray} {f to k : Int} {tl : ByteArray} : ∃ X T Y, (Y = 0 → n < X) ∧ ∀ v, HearV n t f to k tl v → v = outR X T Y := by
  by_cases s : StR n t
  · by_cases o : to ≤ n
    · exact ⟨_, _, _, fun h => absurd h (by decide), fun v h => h.c2 s o⟩
    · by_cases a : StR n t ∧ UpR to k tl
      · by_cases b : f = n
        · by_cases c : (t.size : Int) < k ∨ 400 < k + (tl.size : Int)
          · exact ⟨_, _, _, fun h => absurd h (by decide), fun v h => (h.c3 s o).c3 a.1 a.2 b c⟩
          · exact ⟨_, _, _, fun _ => by omega, fun v h => (h.c3 s o).c4 a.1 a.2 b c⟩
        · exact ⟨_, _, _, fun h => absurd h (by decide), fun v h => (h.c3 s o).c2 a.1 a.2 b⟩
      · exact ⟨_, _, _, fun h => absurd h (by decide), fun v h => (h.c3 s o).c1 a⟩
  · exact ⟨_, _, _, fun h => absurd h (by decide), fun v h => h.c1 s⟩
theorem hear_more (n : Int) (t : ByteArray) (f to k : Int) (tl : ByteArray) (ht : t.size ≤ maxLen) (htl : tl.size ≤ maxLen) : ∃ X T Y, (Y = 0 → n < X) ∧ (∀ u, Calls Try.prog 15 #[.agg #[.int .i64 n, .string t], .agg #[.int .i64 f, .int .i64 to, .int .i64 k, .string tl]] u fun e w' => e = .returned (.agg #[.int .i64 X, .string T, .int .i64 Y]) ∧ Below u.heap.size u w') ∧
    ∀ u, Calls Try.prog 10 #[.agg #[.int .i64 n, .string t], .agg #[.int .i64 f, .int .i64 to, .int .i64 k, .string tl]] u fun e w' => e = .returned (.agg #[.int .i64 X, .string T, .int .i64 Y]) ∧ Below u.heap.size u w' := by
  obtain ⟨X, T, Y, h1, hv⟩ := HearV.more (n := n) (t := t) (f := f) (to := to) (k := k) (tl := tl)
  exact ⟨X, T, Y, h1, fun u => (hearM_any n t f to k tl u ht htl).mono fun e w' ⟨v, he, h, hb⟩ => ⟨by rw [he, hv v h], hb⟩, fun u => (hearI_any n t f to k tl u ht htl).mono fun e w' ⟨v, he, h, hb⟩ => ⟨by rw [he, hv v h], hb⟩⟩
theorem OnV.some {n : Int} {t : ByteArray} {f to k : Int} {tl : ByteArray} : ∃ X T Y, ∀ v, OnV n t f to k tl v → v = outR X T Y := by
  by_cases a : StR n t ∧ UpR to k tl
  · by_cases b : f = n
    · by_cases c : (t.size : Int) < k ∨ 400 < k + (tl.size : Int)
      · exact ⟨_, _, _, fun v h => h.c3 a.1 a.2 b c⟩
      · exact ⟨_, _, _, fun v h => h.c4 a.1 a.2 b c⟩
    · exact ⟨_, _, _, fun v h => h.c2 a.1 a.2 b⟩
  · exact ⟨_, _, _, fun v h => h.c1 a⟩
theorem on_both (n : Int) (t : ByteArray) (f to k : Int) (tl : ByteArray) (ht : t.size ≤ maxLen) (htl : tl.size ≤ maxLen) : ∃ X T Y, (∀ u, Calls Try.prog 14 #[.agg #[.int .i64 n, .string t], .agg #[.int .i64 f, .int .i64 to, .int .i64 k, .string tl]] u fun e w' => e = .returned (.agg #[.int .i64 X, .string T, .int .i64 Y]) ∧ Below u.heap.size u w') ∧
    ∀ u, Calls Try.prog 13 #[.agg #[.int .i64 n, .string t], .agg #[.int .i64 f, .int .i64 to, .int .i64 k, .string tl]] u fun e w' => e = .returned (.agg #[.int .i64 X, .string T, .int .i64 Y]) ∧ Below u.heap.size u w' := by
  obtain ⟨X, T, Y, hv⟩ := OnV.some (n := n) (t := t) (f := f) (to := to) (k := k) (tl := tl)
  exact ⟨X, T, Y, fun u => (onM_any n t f to k tl u ht htl).mono fun e w' ⟨v, he, h, hb⟩ => ⟨by rw [he, hv v h], hb⟩, fun u => (onI_any n t f to k tl u ht htl).mono fun e w' ⟨v, he, h, hb⟩ => ⟨by rw [he, hv v h], hb⟩⟩
theorem back (a b : ByteArray) : a.extract 0 (alike a b) ++ b.extract (alike a b) b.size = b := by
  have h := al_take a.data.toList b.data.toList
  apply ByteArray.ext
  apply Array.ext'
  simp only [ByteArray.data_append, ByteArray.data_extract, Array.toList_append, Array.toList_extract, List.extract_eq_take_drop, List.drop_zero, Nat.sub_zero]
  have e : alike a b = al a.data.toList b.data.toList := rfl
  have hb : b.data.toList.length = b.size := by simp
  have h2 : List.take (b.size - al a.data.toList b.data.toList) (List.drop (al a.data.toList b.data.toList) b.data.toList) = List.drop (al a.data.toList b.data.toList) b.data.toList :=
    List.take_of_length_le (by rw [List.length_drop, hb]; exact Nat.le_refl _)
  rw [e, h, h2, List.take_append_drop]
/-- applied to the state that it was made from, a delta gives the other one -/
theorem on_delta (m : Int) (x : ByteArray) (n : Int) (b : ByteArray) (f to k : Int) (tl : ByteArray) (hv : DeltaV m x n b (.agg #[.int .i64 f, .int .i64 to, .int .i64 k, .string tl])) (h1 : StR m x) (h2 : StR n b) (u : World) :
    Calls Try.prog 13 #[.agg #[.int .i64 m, .string x], .agg #[.int .i64 f, .int .i64 to, .int .i64 k, .string tl]] u fun e w' => e = .returned (.agg #[.int .i64 n, .string b, .int .i64 0]) ∧ Below u.heap.size u w' := by
  have he := hv.1 h1 h2
  simp only [Value.agg.injEq, Array.mk.injEq, List.cons.injEq, Value.int.injEq, Value.string.injEq, true_and, and_true] at he
  obtain ⟨e1, e2, e3, e4⟩ := he
  rw [e1, e2, e3, e4]
  have hl := alike_le x b
  have hs : (b.extract (alike x b) b.size).size = b.size - alike x b := by rw [ByteArray.size_extract]; omega
  have hm : ∀ j, j ≤ 400 → j ≤ maxLen := fun j hj => Nat.le_trans hj (by decide)
  have hx := h1.2
  have hb := h2.2
  refine (onI_any m x m n (alike x b) (b.extract (alike x b) b.size) u (hm _ hx) (hm _ (by rw [hs]; omega))).mono ?_
  rintro e w' ⟨v, rfl, hv, hbw⟩
  refine ⟨?_, hbw⟩
  rw [hv.c4 h1 ⟨h2.1, by omega, by rw [hs]; omega⟩ rfl (by rw [hs]; omega)]
  simp only [Int.toNat_natCast, outR]
  rw [back]
/-- to a state of another number it is none -/
theorem on_other (m : Int) (x : ByteArray) (n : Int) (b : ByteArray) (f to k : Int) (tl : ByteArray) (hv : DeltaV m x n b (.agg #[.int .i64 f, .int .i64 to, .int .i64 k, .string tl])) (h1 : StR m x) (h2 : StR n b) (h3 : m + 1 ≤ 1000000) (u : World) :
    Calls Try.prog 13 #[.agg #[.int .i64 (m + 1), .string x], .agg #[.int .i64 f, .int .i64 to, .int .i64 k, .string tl]] u fun e w' => e = .returned (.agg #[.int .i64 0, .string ⟨#[]⟩, .int .i64 10]) ∧ Below u.heap.size u w' := by
  have he := hv.1 h1 h2
  simp only [Value.agg.injEq, Array.mk.injEq, List.cons.injEq, Value.int.injEq, Value.string.injEq, true_and, and_true] at he
  obtain ⟨e1, e2, e3, e4⟩ := he
  rw [e1, e2, e3, e4]
  have hs : (b.extract (alike x b) b.size).size = b.size - alike x b := by rw [ByteArray.size_extract]; omega
  have hm : ∀ j, j ≤ 400 → j ≤ maxLen := fun j hj => Nat.le_trans hj (by decide)
  have hx := h1.2
  have hb := h2.2
  refine (onI_any (m + 1) x m n (alike x b) (b.extract (alike x b) b.size) u (hm _ hx) (hm _ (by rw [hs]; omega))).mono ?_
  rintro e w' ⟨v, rfl, hv, hbw⟩
  refine ⟨?_, hbw⟩
  rw [hv.c2 ⟨⟨by have := h1.1.1; omega, h3⟩, hx⟩ ⟨h2.1, by omega, by rw [hs]; omega⟩ (by omega)]
theorem fieldC (n : Int) (t : ByteArray) (c : Int) (u : World) : (Instr.field 37 (.agg #[.int .i64 n, .string t, .int .i64 c]) 1).run Try.prog u = .ok (.int .i64 c) u := by kernel_rfl
set_option maxHeartbeats 2000000 in
theorem lwR_any (X : Int) (T : ByteArray) (Y : Int) (w : World) :
    Calls Try.prog 12 #[.agg #[.int .i64 X, .string T, .int .i64 Y], .agg #[.int .i64 X, .string T, .int .i64 Y]] w fun e w' => e = .returned (.bool true) ∧ Below w.heap.size w w' := by
  go_enter Try.func12, Try.ntmps12
  have HB : Hid (Below w.heap.size w ((w.alloc (.cells #[.int .i64 X, .string T, .int .i64 Y] 37)).alloc (.cells #[.int .i64 X, .string T, .int .i64 Y] 37))) := ((Below.refl _ _).alloc (Nat.le_refl _) _).alloc (by simp) _
  go_wp2
  go_ret
  exact ⟨rfl, HB.out⟩
end Go.Proofs.Ytmbeanimjmfddaa.st
