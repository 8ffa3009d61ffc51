/-
  What the program reads of a text from its bytes, by a plain function; errors.errorType holds what the program's text lays in it.
-/
import Derived.Test.YtppmcmdmjginjaeDoorGetNumI
import Derived.Test.YtppmcmdmjginjaeDoorTextPlain
import Derived.Test.YtppmcmdmjginjaeDoorJoin
namespace Go.Proofs.YtppmcmdmjginjaeDoor.gt
open Go.ChangeShapes Go.WideShapes Go.ChangeAt Go.RowKit
open Go.Proofs.YtppmcmdmjginjaeDoor.np Go.Proofs.YtppmcmdmjginjaeDoor.tp Go.Proofs.YtppmcmdmjginjaeDoor.gi
set_option linter.unusedVariables false

/-- what readText tells, of a text of at most 8000 bytes -/
def tupT (r : ByteArray × Int × Int) : Value := .tuple #[.string r.1, .int .i64 r.2.1, errV r.2.2]
set_option maxHeartbeats 1000000 in
theorem readText_any (s : ByteArray) (i : Int) (w : World) (h8 : s.size ≤ 8000) (w0 : (Lit.int .i64 i).wf = true) :
    Calls Tryd.prog 13 #[.string s, .int .i64 i] w fun e w' => e = .returned (tupT (textV s i)) ∧ Below w.heap.size w w' := by
  have hnv : numV s i = getV s i := numV_short (by omega)
  obtain ⟨n, m, c, hnum⟩ : ∃ n m c, numV s i = (n, m, c) := ⟨_, _, _, rfl⟩
  have hg : getV s i = (n, m, c) := by rw [← hnv]; exact hnum
  have hc0 : 0 ≤ c := by have := getV_code s i; rw [hg] at this; exact this
  have hr := fun u => gi.readNum_any s i u h8 w0
  rw [hg] at hr
  by_cases hc : c = 0
  · subst hc
    have hm : 0 ≤ m ∧ m ≤ s.size := by
      have := getV_facts (s := s) (i := i) (by rw [hg])
      rwa [hg] at this
    have HR : Hid (∀ u, Calls Tryd.prog 11 #[.string s, .int .i64 i] u fun e w' => e = .returned (.tuple #[.int .i64 n, .int .i64 m, .nilIface]) ∧ w' = u) := hr
    clear hr hnv hg
    by_cases hn : n < 0 ∨ 8000 < n
    · have HO : Hid (textV s i = ({ data := #[] }, 0, 3)) := textV_len hnum hn
      rw [HO.out]
      clear HO hnum
      by_cases hn0 : n < 0
      · clear hn
        go_enter Tryd.func13, Tryd.ntmps13
        go_wp2_with (go_at_call 11; refine (HR.out _).mono ?_; rintro e w' ⟨rfl, rfl⟩)
        go_ret3
        exact ⟨rfl, Below.refl _ _⟩
      · have hn1 : 8000 < n := by omega
        clear hn
        go_enter Tryd.func13, Tryd.ntmps13
        go_wp2_with (go_at_call 11; refine (HR.out _).mono ?_; rintro e w' ⟨rfl, rfl⟩)
        go_ret3
        exact ⟨rfl, Below.refl _ _⟩
    · have hn0 : 0 ≤ n ∧ n ≤ 8000 := by omega
      by_cases he : (s.size : Int) < m + n
      · have HO : Hid (textV s i = ({ data := #[] }, 0, 4)) := textV_end hnum hn he
        rw [HO.out]
        clear HO hnum hn
        go_enter Tryd.func13, Tryd.ntmps13
        go_wp2_with (go_at_call 11; refine (HR.out _).mono ?_; rintro e w' ⟨rfl, rfl⟩)
        go_ret3
        exact ⟨rfl, Below.refl _ _⟩
      · have HO : Hid (textV s i = (s.extract m.toNat (m + n).toNat, m + n, 0)) := textV_ok hnum hn he
        rw [HO.out]
        clear HO hnum hn
        have hb0 : m ≤ m + n := by omega
        have hb2 : m + n ≤ (s.size : Int) := by omega
        have hsz : (s.extract m.toNat (m + n).toNat).size ≤ 1099511627776 := by simp; omega
        go_enter Tryd.func13, Tryd.ntmps13
        go_wp2_with (first | (go_at_call 11; refine (HR.out _).mono ?_; rintro e w' ⟨rfl, rfl⟩) | (go_at_call 16; refine (jo.joined1 _ _ hsz).mono ?_; rintro e w2 ⟨rfl, hb2⟩))
        go_ret3
        exact ⟨rfl, by assumption⟩
  · have HO : Hid (textV s i = ({ data := #[] }, 0, c)) := textV_code hnum hc
    rw [HO.out]
    have hev : errV c = .iface 42 (.agg #[.int .i64 c]) := if_neg hc
    simp only [hev] at hr
    have HR : Hid (∀ u, Calls Tryd.prog 11 #[.string s, .int .i64 i] u fun e w' => e = .returned (.tuple #[.int .i64 n, .int .i64 m, .iface 42 (.agg #[.int .i64 c])]) ∧ w' = u) := hr
    have HV : Hid (errV c = .iface 42 (.agg #[.int .i64 c])) := hev
    clear hr hnv hg HO hnum hev
    go_enter Tryd.func13, Tryd.ntmps13
    go_wp2_with (go_at_call 11; refine (HR.out _).mono ?_; rintro e w' ⟨rfl, rfl⟩)
    go_ret3
    exact ⟨by rw [tupT, HV.out]; rfl, Below.refl _ _⟩

set_option maxHeartbeats 400000 in
theorem impl_any (s : ByteArray) (i : Int) (w : World) (hs : s.size ≤ maxLen) (w0 : (Lit.int .i64 i).wf = true) (hg : ea.Laid w) :
    Calls Tryd.prog 9 #[.string s, .int .i64 i] w fun e w' => e = .returned (outT (textV s i)) ∧ Below w.heap.size w w' := by
  unfold maxLen at hs
  by_cases h1 : 8000 < s.size
  · rw [textV_code (numV_long h1) (by decide)]
    go_enter Tryd.func9, Tryd.ntmps9
    go_wp2
    exact bodyPost_ret (v := .agg #[.string { data := #[] }, .int .i64 0, .int .i64 2]) (by simp [results, Tryd.results9, go_sem]) rfl ⟨rfl, (Below.refl _ _).alloc (Nat.le_refl _) _⟩
  · have h8 : s.size ≤ 8000 := by omega
    obtain ⟨t, m, c, ht⟩ : ∃ t m c, textV s i = (t, m, c) := ⟨_, _, _, rfl⟩
    have hr := fun u => readText_any s i u h8 w0
    rw [ht] at hr ⊢
    have HR : Hid (∀ u, Calls Tryd.prog 13 #[.string s, .int .i64 i] u fun e w' => e = .returned (.tuple #[.string t, .int .i64 m, errV c]) ∧ Below u.heap.size u w') := hr
    clear hr ht
    have HGA : Hid (∀ (o : Obj) w1, Below (w.alloc o).heap.size (w.alloc o) w1 → ea.Laid w1) := fun o w1 hb => (hg.below ((Below.refl _ _).alloc (Nat.le_refl _) o)).below hb
    go_enter Tryd.func9, Tryd.ntmps9
    go_wp2_with (first | (go_at_call 13; refine (HR.out _).mono ?_; rintro e w1 ⟨rfl, hb1⟩; obtain ⟨hc1, hf1⟩ := gi.bcell hb1; have hz1 : w.heap.size < w1.heap.size := by { have := hb1.size; simp at this; omega }) | (go_at_call 12; refine (gi.codeOf_any _ _ (HGA.out _ _ hb1)).mono ?_; rintro e w2 ⟨rfl, hb2⟩; obtain ⟨hc2, hf2⟩ := gi.bcell hb2; have hz2 : w.heap.size < w2.heap.size := by { have := hb2.size; omega }))
    refine bodyPost_ret (v := .agg #[.string t, .int .i64 m, .int .i64 c]) (by simp [results, Tryd.results9, go_sem, hc2, hc1, hz1]) rfl ⟨rfl, ?_⟩
    exact ((((((Below.refl _ _).alloc (Nat.le_refl _) _).trans (hb1.mono (by simp))).trans (hb2.mono (by omega))).setCell (Nat.le_refl _) _).setCell (Nat.le_refl _) _).setCell (Nat.le_refl _) _

theorem impl_out (s : ByteArray) (i : Int) (w : World) (hs : s.size ≤ maxLen) (w0 : (Lit.int .i64 i).wf = true) (hg : ea.Laid w) :
    Calls Tryd.prog 9 #[.string s, .int .i64 i] w fun e w' => e = .returned (.agg #[.string (textV s i).1, .int .i64 (textV s i).2.1, .int .i64 (textV s i).2.2]) ∧ Below w.heap.size w w' := impl_any s i w hs w0 hg
end Go.Proofs.YtppmcmdmjginjaeDoor.gt
