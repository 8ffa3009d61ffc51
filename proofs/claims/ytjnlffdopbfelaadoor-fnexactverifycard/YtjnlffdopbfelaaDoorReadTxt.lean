/-
  What the program reads of a text from its bytes, by a plain function. No condition.
-/
import Derived.Test.YtjnlffdopbfelaaDoorRdNum
import Derived.Test.YtjnlffdopbfelaaDoorTextPlain
import Derived.Test.YtjnlffdopbfelaaDoorJoin
namespace Go.Proofs.YtjnlffdopbfelaaDoor.gt
open Go.ChangeShapes Go.WideShapes Go.ChangeAt Go.RowKit
open Go.Proofs.YtjnlffdopbfelaaDoor.np Go.Proofs.YtjnlffdopbfelaaDoor.tp Go.Proofs.YtjnlffdopbfelaaDoor.gi
set_option linter.unusedVariables false

/-- what readText tells, of a text of at most 8000 bytes -/
def tupT (r : ByteArray × Int × Int) : Value := .tuple #[.string r.1, .int .i64 r.2.1, errV r.2.2]
set_option maxHeartbeats 1000000 in
theorem readText_any (s : ByteArray) (i : Int) (w : World) (h8 : s.size ≤ 8000) (w0 : (Lit.int .i64 i).wf = true) :
    Calls Tryd.prog 64 #[.string s, .int .i64 i] w fun e w' => e = .returned (tupT (textV s i)) ∧ Below w.heap.size w w' := by
  have hnv : numV s i = getV s i := numV_short (by omega)
  obtain ⟨n, m, c, hnum⟩ : ∃ n m c, numV s i = (n, m, c) := ⟨_, _, _, rfl⟩
  have hg : getV s i = (n, m, c) := by rw [← hnv]; exact hnum
  have hc0 : 0 ≤ c := by have := getV_code s i; rw [hg] at this; exact this
  have hr := fun u => gi.readNum_any s i u h8 w0
  rw [hg] at hr
  by_cases hc : c = 0
  · subst hc
    have hm : 0 ≤ m ∧ m ≤ s.size := by
      have := getV_facts (s := s) (i := i) (by rw [hg])
      rwa [hg] at this
    have HR : Hid (∀ u, Calls Tryd.prog 74 #[.string s, .int .i64 i] u fun e w' => e = .returned (.tuple #[.int .i64 n, .int .i64 m, .nilIface]) ∧ w' = u) := hr
    clear hr hnv hg
    by_cases hn : n < 0 ∨ 8000 < n
    · have HO : Hid (textV s i = ({ data := #[] }, 0, 3)) := textV_len hnum hn
      rw [HO.out]
      clear HO hnum
      by_cases hn0 : n < 0
      · clear hn
        go_enter Tryd.func64, Tryd.ntmps64
        go_wp2_with (go_at_call 74; refine (HR.out _).mono ?_; rintro e w' ⟨rfl, rfl⟩)
        go_ret3
        exact ⟨rfl, Below.refl _ _⟩
      · have hn1 : 8000 < n := by omega
        clear hn
        go_enter Tryd.func64, Tryd.ntmps64
        go_wp2_with (go_at_call 74; refine (HR.out _).mono ?_; rintro e w' ⟨rfl, rfl⟩)
        go_ret3
        exact ⟨rfl, Below.refl _ _⟩
    · have hn0 : 0 ≤ n ∧ n ≤ 8000 := by omega
      by_cases he : (s.size : Int) < m + n
      · have HO : Hid (textV s i = ({ data := #[] }, 0, 4)) := textV_end hnum hn he
        rw [HO.out]
        clear HO hnum hn
        go_enter Tryd.func64, Tryd.ntmps64
        go_wp2_with (go_at_call 74; refine (HR.out _).mono ?_; rintro e w' ⟨rfl, rfl⟩)
        go_ret3
        exact ⟨rfl, Below.refl _ _⟩
      · have HO : Hid (textV s i = (s.extract m.toNat (m + n).toNat, m + n, 0)) := textV_ok hnum hn he
        rw [HO.out]
        clear HO hnum hn
        have hb0 : m ≤ m + n := by omega
        have hb2 : m + n ≤ (s.size : Int) := by omega
        have hsz : (s.extract m.toNat (m + n).toNat).size ≤ 1099511627776 := by simp; omega
        go_enter Tryd.func64, Tryd.ntmps64
        go_wp2_with (first | (go_at_call 74; refine (HR.out _).mono ?_; rintro e w' ⟨rfl, rfl⟩) | (go_at_call 43; refine (jo.joined1 _ _ hsz).mono ?_; rintro e w2 ⟨rfl, hb2⟩))
        go_ret3
        exact ⟨rfl, by assumption⟩
  · have HO : Hid (textV s i = ({ data := #[] }, 0, c)) := textV_code hnum hc
    rw [HO.out]
    have hev : errV c = .iface 94 (.agg #[.int .i64 c]) := if_neg hc
    simp only [hev] at hr
    have HR : Hid (∀ u, Calls Tryd.prog 74 #[.string s, .int .i64 i] u fun e w' => e = .returned (.tuple #[.int .i64 n, .int .i64 m, .iface 94 (.agg #[.int .i64 c])]) ∧ w' = u) := hr
    have HV : Hid (errV c = .iface 94 (.agg #[.int .i64 c])) := hev
    clear hr hnv hg HO hnum hev
    go_enter Tryd.func64, Tryd.ntmps64
    go_wp2_with (go_at_call 74; refine (HR.out _).mono ?_; rintro e w' ⟨rfl, rfl⟩)
    go_ret3
    exact ⟨by rw [tupT, HV.out]; rfl, Below.refl _ _⟩

end Go.Proofs.YtjnlffdopbfelaaDoor.gt
