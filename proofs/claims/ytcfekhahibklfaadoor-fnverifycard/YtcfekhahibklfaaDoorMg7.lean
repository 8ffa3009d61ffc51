/-
  The two functions that write a text with its length ahead hand back the same text: no condition.
  What the program reads of a text from its bytes, by a plain function. No condition.
-/
import Derived.Test.YtcfekhahibklfaaDoorPutNum
import Derived.Test.YtcfekhahibklfaaDoorJoin
import Derived.Test.YtcfekhahibklfaaDoorRdNum
import Derived.Test.YtcfekhahibklfaaDoorMg3
namespace Go.Proofs.YtcfekhahibklfaaDoor.pt
open Go.ChangeShapes Go.WideShapes Go.ChangeAt Go.RowKit
set_option linter.unusedVariables false

theorem digs_length_le (k : Nat) : ∀ u : Nat, u < 128 ^ (k + 1) → (pn.digs u).length ≤ k + 1 := by
  induction k with
  | zero => intro u h; rw [pn.digs_last (by simpa using h)]; simp
  | succ k ih =>
    intro u h
    by_cases hu : u < 128
    · rw [pn.digs_last hu]; simp
    · rw [pn.digs_more hu]
      have := ih (u / 128) (by rw [Nat.div_lt_iff_lt_mul (by omega)]; rwa [Nat.pow_succ] at h)
      simp; omega
theorem numB_size_le {n : Int} (h : pn.i64P n) : (pn.numB n).size ≤ 10 := by
  have hf := pn.fold_u64 h
  rw [pn.numB, strOfNums_size]
  exact digs_length_le 9 _ (by have : (128 : Nat) ^ 10 = 1180591620717411303424 := by decide
                               omega)
theorem i64_size {s : ByteArray} (h : ¬ 8000 < s.size) : pn.i64P (s.size : Int) := by unfold pn.i64P; omega

/-- what both hand back -/
def putB (s : ByteArray) : ByteArray := if 8000 < s.size then { data := #[] } else pn.numB (s.size : Int) ++ s
theorem putB_no {s : ByteArray} (h : 8000 < s.size) : putB s = { data := #[] } := if_pos h
theorem putB_yes {s : ByteArray} (h : ¬ 8000 < s.size) : putB s = pn.numB (s.size : Int) ++ s := if_neg h

set_option maxHeartbeats 400000 in
theorem spec_any (s : ByteArray) (w : World) (hs : s.size ≤ maxLen) :
    Calls Tryd.prog 45 #[.string s] w fun e w' => e = .returned (.string (putB s)) ∧ Below w.heap.size w w' := by
  unfold maxLen at hs
  by_cases h1 : 8000 < s.size
  · rw [putB_no h1]
    go_enter Tryd.func45, Tryd.ntmps45
    go_wp2
    go_ret
    exact ⟨rfl, Below.refl _ _⟩
  · rw [putB_yes h1]
    have hi := i64_size h1
    have hn := numB_size_le hi
    go_enter Tryd.func45, Tryd.ntmps45
    go_wp2_with (go_at_call 67; refine (pn.spec_any _ _ hi).mono ?_; rintro e w1 ⟨rfl, hb1⟩)
    go_ret
    exact ⟨rfl, hb1⟩

set_option maxHeartbeats 400000 in
theorem impl_any (s : ByteArray) (w : World) (hs : s.size ≤ maxLen) :
    Calls Tryd.prog 37 #[.string s] w fun e w' => e = .returned (.string (putB s)) ∧ Below w.heap.size w w' := by
  unfold maxLen at hs
  by_cases h1 : 8000 < s.size
  · rw [putB_no h1]
    go_enter Tryd.func37, Tryd.ntmps37
    go_wp2
    go_ret
    exact ⟨rfl, Below.refl _ _⟩
  · rw [putB_yes h1]
    have hi := i64_size h1
    have hn := numB_size_le hi
    go_enter Tryd.func37, Tryd.ntmps37
    go_wp2_with (first | (go_at_call 65; refine (pn.impl_any _ _ hi).mono ?_; rintro e w1 ⟨rfl, hb1⟩) | (go_at_call 39; refine (jo.joined2 _ _ _ (by omega)).mono ?_; rintro e w2 ⟨rfl, hb2⟩))
    go_ret
    exact ⟨rfl, hb1.trans (hb2.mono hb1.size)⟩
end Go.Proofs.YtcfekhahibklfaaDoor.pt

namespace Go.Proofs.YtcfekhahibklfaaDoor.gt
open Go.ChangeShapes Go.WideShapes Go.ChangeAt Go.RowKit
open Go.Proofs.YtcfekhahibklfaaDoor.np Go.Proofs.YtcfekhahibklfaaDoor.tp Go.Proofs.YtcfekhahibklfaaDoor.gi
set_option linter.unusedVariables false

/-- what readText tells, of a text of at most 8000 bytes -/
def tupT (r : ByteArray × Int × Int) : Value := .tuple #[.string r.1, .int .i64 r.2.1, errV r.2.2]
set_option maxHeartbeats 1000000 in
theorem readText_any (s : ByteArray) (i : Int) (w : World) (h8 : s.size ≤ 8000) (w0 : (Lit.int .i64 i).wf = true) :
    Calls Tryd.prog 69 #[.string s, .int .i64 i] w fun e w' => e = .returned (tupT (textV s i)) ∧ Below w.heap.size w w' := by
  have hnv : numV s i = getV s i := numV_short (by omega)
  obtain ⟨n, m, c, hnum⟩ : ∃ n m c, numV s i = (n, m, c) := ⟨_, _, _, rfl⟩
  have hg : getV s i = (n, m, c) := by rw [← hnv]; exact hnum
  have hc0 : 0 ≤ c := by have := getV_code s i; rw [hg] at this; exact this
  have hr := fun u => gi.readNum_any s i u h8 w0
  rw [hg] at hr
  by_cases hc : c = 0
  · subst hc
    have hm : 0 ≤ m ∧ m ≤ s.size := by
      have := getV_facts (s := s) (i := i) (by rw [hg])
      rwa [hg] at this
    have HR : Hid (∀ u, Calls Tryd.prog 81 #[.string s, .int .i64 i] u fun e w' => e = .returned (.tuple #[.int .i64 n, .int .i64 m, .nilIface]) ∧ w' = u) := hr
    clear hr hnv hg
    by_cases hn : n < 0 ∨ 8000 < n
    · have HO : Hid (textV s i = ({ data := #[] }, 0, 3)) := textV_len hnum hn
      rw [HO.out]
      clear HO hnum
      by_cases hn0 : n < 0
      · clear hn
        go_enter Tryd.func69, Tryd.ntmps69
        go_wp2_with (go_at_call 81; refine (HR.out _).mono ?_; rintro e w' ⟨rfl, rfl⟩)
        go_ret3
        exact ⟨rfl, Below.refl _ _⟩
      · have hn1 : 8000 < n := by omega
        clear hn
        go_enter Tryd.func69, Tryd.ntmps69
        go_wp2_with (go_at_call 81; refine (HR.out _).mono ?_; rintro e w' ⟨rfl, rfl⟩)
        go_ret3
        exact ⟨rfl, Below.refl _ _⟩
    · have hn0 : 0 ≤ n ∧ n ≤ 8000 := by omega
      by_cases he : (s.size : Int) < m + n
      · have HO : Hid (textV s i = ({ data := #[] }, 0, 4)) := textV_end hnum hn he
        rw [HO.out]
        clear HO hnum hn
        go_enter Tryd.func69, Tryd.ntmps69
        go_wp2_with (go_at_call 81; refine (HR.out _).mono ?_; rintro e w' ⟨rfl, rfl⟩)
        go_ret3
        exact ⟨rfl, Below.refl _ _⟩
      · have HO : Hid (textV s i = (s.extract m.toNat (m + n).toNat, m + n, 0)) := textV_ok hnum hn he
        rw [HO.out]
        clear HO hnum hn
        have hb0 : m ≤ m + n := by omega
        have hb2 : m + n ≤ (s.size : Int) := by omega
        have hsz : (s.extract m.toNat (m + n).toNat).size ≤ 1099511627776 := by simp; omega
        go_enter Tryd.func69, Tryd.ntmps69
        go_wp2_with (first | (go_at_call 81; refine (HR.out _).mono ?_; rintro e w' ⟨rfl, rfl⟩) | (go_at_call 39; refine (jo.joined1 _ _ hsz).mono ?_; rintro e w2 ⟨rfl, hb2⟩))
        go_ret3
        exact ⟨rfl, by assumption⟩
  · have HO : Hid (textV s i = ({ data := #[] }, 0, c)) := textV_code hnum hc
    rw [HO.out]
    have hev : errV c = .iface 109 (.agg #[.int .i64 c]) := if_neg hc
    simp only [hev] at hr
    have HR : Hid (∀ u, Calls Tryd.prog 81 #[.string s, .int .i64 i] u fun e w' => e = .returned (.tuple #[.int .i64 n, .int .i64 m, .iface 109 (.agg #[.int .i64 c])]) ∧ w' = u) := hr
    have HV : Hid (errV c = .iface 109 (.agg #[.int .i64 c])) := hev
    clear hr hnv hg HO hnum hev
    go_enter Tryd.func69, Tryd.ntmps69
    go_wp2_with (go_at_call 81; refine (HR.out _).mono ?_; rintro e w' ⟨rfl, rfl⟩)
    go_ret3
    exact ⟨by rw [tupT, HV.out]; rfl, Below.refl _ _⟩

end Go.Proofs.YtcfekhahibklfaaDoor.gt
