/-
  The sealing functions of the program and of the model hand back the same text: of at most 7996 bytes it and the four bytes of its checksum, else the empty text.
-/
import Derived.Test.YteekipjmhihleaaCrc
import Derived.Test.YteekipjmhihleaaJoin
import Derived.Laws.BytesArg
namespace Go.Proofs.Yteekipjmhihleaa.se
open Go.ChangeShapes Go.WideShapes Go.ChangeAt Go.RowKit
open Go.Lib (byteCells)
set_option linter.unusedVariables false

theorem conv4 (u : World) (a b c d : Int) : (convert 22 9 (.slice (some ⟨u.heap.size, 0, none⟩) 4 4)).run Try.prog (u.alloc (.cells #[.int .u8 a, .int .u8 b, .int .u8 c, .int .u8 d] 5)) =
    .ok (.string (strOfNums [a, b, c, d])) (u.alloc (.cells #[.int .u8 a, .int .u8 b, .int .u8 c, .int .u8 d] 5)) :=
  run_convert_bytes_arg (P := Try.prog) _ 22 5 Try.underlying22 Try.underlying5 u.heap.size 0 4 4 [a, b, c, d] rfl (fun i hi => by
    match i, hi with
    | 0, _ => simp
    | 1, _ => simp
    | 2, _ => simp
    | 3, _ => simp) 9 Try.underlying9

def fourB (n : Int) : ByteArray := strOfNums [n % 256, n / 256 % 256, n / 65536 % 256, n / 16777216]
theorem fourB_size (n : Int) : (fourB n).size = 4 := by simp [fourB, strOfNums_size]

set_option maxHeartbeats 400000 in
theorem four_any (n : Int) (w : World) (h0 : 0 ≤ n) (h1 : n ≤ 4294967295) :
    Calls Try.prog 19 #[.int .i64 n] w fun e w' => e = .returned (.string (fourB n)) ∧ Below w.heap.size w w' := by
  have hc := conv4
  unfold fourB
  go_enter Try.func19, Try.ntmps19
  go_wp2
  go_ret
  exact ⟨rfl, (Below.refl _ _).alloc (Nat.le_refl _) _⟩

set_option maxHeartbeats 400000 in
theorem sumOf_any (s : ByteArray) (w : World) (hs : s.size ≤ 8000) :
    Calls Try.prog 18 #[.string s] w fun e w' => e = .returned (.string (fourB (cr.crcC 0 s))) ∧ Below w.heap.size w w' := by
  have hc := conv4
  have hm : s.size ≤ maxLen := by unfold maxLen; omega
  obtain ⟨c0, c1⟩ := cr.crcC_u32 0 s
  have hy : cr.moreC 0 s = cr.crcC 0 s := cr.moreC_yes (by omega)
  unfold fourB
  go_enter Try.func18, Try.ntmps18
  go_wp2_with (go_at_call 12; refine (cr.implCrc_any _ _ hm).mono ?_; rintro e w' ⟨rfl, rfl⟩)
  go_ret
  exact ⟨rfl, (Below.refl _ _).alloc (Nat.le_refl _) _⟩

/-- what both hand back -/
def sealB (s : ByteArray) : ByteArray := if 7996 < s.size then ByteArray.empty else s ++ fourB (cr.crcC 0 s)
theorem sealB_no {s : ByteArray} (h : 7996 < s.size) : sealB s = ByteArray.empty := if_pos h
theorem sealB_yes {s : ByteArray} (h : ¬ 7996 < s.size) : sealB s = s ++ fourB (cr.crcC 0 s) := if_neg h

set_option maxHeartbeats 400000 in
theorem spec_any (s : ByteArray) (w : World) (hs : s.size ≤ maxLen) :
    Calls Try.prog 6 #[.string s] w fun e w' => e = .returned (.string (sealB s)) ∧ Below w.heap.size w w' := by
  unfold maxLen at hs
  by_cases h1 : 7996 < s.size
  · rw [sealB_no h1]
    go_enter Try.func6, Try.ntmps6
    go_wp2
    go_ret
    exact ⟨rfl, Below.refl _ _⟩
  · rw [sealB_yes h1]
    obtain ⟨c0, c1⟩ := cr.crcC_u32 0 s
    have h2 : s.size ≤ 8000 := by omega
    have h4 := fourB_size (cr.crcC 0 s)
    go_enter Try.func6, Try.ntmps6
    go_wp2_with (first | (go_at_call 20; refine (cr.spec_any _ _ _ h2 (by omega) (by omega)).mono ?_; rintro e w' ⟨rfl, rfl⟩) | (go_at_call 19; refine (four_any _ _ c0 c1).mono ?_; rintro e w1 ⟨rfl, hb1⟩))
    go_ret
    exact ⟨rfl, hb1⟩

set_option maxHeartbeats 400000 in
theorem impl_any (s : ByteArray) (w : World) (hs : s.size ≤ maxLen) :
    Calls Try.prog 5 #[.string s] w fun e w' => e = .returned (.string (sealB s)) ∧ Below w.heap.size w w' := by
  unfold maxLen at hs
  by_cases h1 : 7996 < s.size
  · rw [sealB_no h1]
    go_enter Try.func5, Try.ntmps5
    go_wp2
    go_ret
    exact ⟨rfl, Below.refl _ _⟩
  · rw [sealB_yes h1]
    have h2 : s.size ≤ 8000 := by omega
    have h4 := fourB_size (cr.crcC 0 s)
    go_enter Try.func5, Try.ntmps5
    go_wp2_with (first | (go_at_call 18; refine (sumOf_any _ _ h2).mono ?_; rintro e w1 ⟨rfl, hb1⟩) | (go_at_call 17; refine (jo.joined2 _ _ _ (by omega)).mono ?_; rintro e w2 ⟨rfl, hb2⟩))
    go_ret
    exact ⟨rfl, hb1.trans (hb2.mono hb1.size)⟩
end Go.Proofs.Yteekipjmhihleaa.se
