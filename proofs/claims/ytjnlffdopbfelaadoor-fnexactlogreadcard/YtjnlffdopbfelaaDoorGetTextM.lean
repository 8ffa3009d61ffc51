/-
  What the model reads of a text from its bytes, by a plain function: no condition.
-/
import Derived.Test.YtjnlffdopbfelaaDoorGetNumM
import Derived.Test.YtjnlffdopbfelaaDoorTextPlain
import Derived.BigRegion
namespace Go.Proofs.YtjnlffdopbfelaaDoor.ts
open Go.ChangeShapes Go.WideShapes Go.ChangeAt Go.RowKit
open Go.Proofs.YtjnlffdopbfelaaDoor.np Go.Proofs.YtjnlffdopbfelaaDoor.tp Go.Proofs.YtjnlffdopbfelaaDoor.gs
set_option linter.unusedVariables false

theorem bcell {W w1 : World} (hb : Below W.heap.size W w1) : (∀ b o, b < W.heap.size → w1.cell? ⟨b, o, none⟩ = W.cell? ⟨b, o, none⟩) ∧ (∀ b o, b < W.heap.size → w1.frozen? ⟨b, o, none⟩ = W.frozen? ⟨b, o, none⟩) :=
  ⟨fun b o h => hb.cell (p := ⟨b, o, none⟩) h, fun b o h => hb.frozen (p := ⟨b, o, none⟩) h⟩

set_option maxHeartbeats 1000000 in
theorem spec_any (s : ByteArray) (i : Int) (w : World) (hs : s.size ≤ maxLen) (w0 : (Lit.int .i64 i).wf = true) :
    Calls Tryd.prog 44 #[.string s, .int .i64 i] w fun e w' => e = .returned (outT (textV s i)) ∧ Below w.heap.size w w' := by
  obtain ⟨n, m, c, hnum⟩ : ∃ n m c, numV s i = (n, m, c) := ⟨_, _, _, rfl⟩
  have hr := fun u => gs.spec_out s i u hs w0
  rw [hnum] at hr
  have HR : Hid (∀ u, Calls Tryd.prog 62 #[.string s, .int .i64 i] u fun e w' => e = .returned (.agg #[.int .i64 n, .int .i64 m, .int .i64 c]) ∧ Below u.heap.size u w') := hr
  clear hr
  have hs2 := hs
  unfold maxLen at hs2
  by_cases hc : c = 0
  · subst hc
    have hm : 0 ≤ m ∧ m ≤ s.size := by
      have h8 : ¬ 8000 < s.size := fun h => by rw [numV_long h] at hnum; simp at hnum
      rw [numV_short h8] at hnum
      have := getV_facts (s := s) (i := i) (by rw [hnum])
      rwa [hnum] at this
    have h8 : s.size ≤ 8000 := by
      have h8 : ¬ 8000 < s.size := fun h => by rw [numV_long h] at hnum; simp at hnum
      omega
    by_cases hn : n < 0 ∨ 8000 < n
    · have HO : Hid (textV s i = ({ data := #[] }, 0, 3)) := textV_len hnum hn
      rw [HO.out]
      clear HO hnum
      by_cases hn0 : n < 0
      · clear hn
        go_enter Tryd.func44, Tryd.ntmps44
        go_wp2_with (go_at_call 62; refine (HR.out _).mono ?_; rintro e w1 ⟨rfl, hb1⟩; obtain ⟨hc1, hf1⟩ := bcell hb1; have hz1 : w.heap.size < w1.heap.size := by { have := hb1.size; simp at this; omega })
        refine bodyPost_ret (v := .agg #[.string { data := #[] }, .int .i64 0, .int .i64 3]) (by simp [results, Tryd.results44, go_sem, hc1, hz1]) rfl ⟨rfl, ?_⟩
        exact ((((((Below.refl _ _).alloc (Nat.le_refl _) _).trans (hb1.mono (by simp))).setCell (Nat.le_refl _) _).setCell (Nat.le_refl _) _).setCell (Nat.le_refl _) _).alloc (by simp; omega) _
      · have hn1 : 8000 < n := by omega
        clear hn
        go_enter Tryd.func44, Tryd.ntmps44
        go_wp2_with (go_at_call 62; refine (HR.out _).mono ?_; rintro e w1 ⟨rfl, hb1⟩; obtain ⟨hc1, hf1⟩ := bcell hb1; have hz1 : w.heap.size < w1.heap.size := by { have := hb1.size; simp at this; omega })
        refine bodyPost_ret (v := .agg #[.string { data := #[] }, .int .i64 0, .int .i64 3]) (by simp [results, Tryd.results44, go_sem, hc1, hz1]) rfl ⟨rfl, ?_⟩
        exact ((((((Below.refl _ _).alloc (Nat.le_refl _) _).trans (hb1.mono (by simp))).setCell (Nat.le_refl _) _).setCell (Nat.le_refl _) _).setCell (Nat.le_refl _) _).alloc (by simp; omega) _
    · by_cases he : (s.size : Int) < m + n
      · have HO : Hid (textV s i = ({ data := #[] }, 0, 4)) := textV_end hnum hn he
        rw [HO.out]
        clear HO hnum
        have hn0 : 0 ≤ n ∧ n ≤ 8000 := by omega
        clear hn
        go_enter Tryd.func44, Tryd.ntmps44
        go_wp2_with (go_at_call 62; refine (HR.out _).mono ?_; rintro e w1 ⟨rfl, hb1⟩; obtain ⟨hc1, hf1⟩ := bcell hb1; have hz1 : w.heap.size < w1.heap.size := by { have := hb1.size; simp at this; omega })
        refine bodyPost_ret (v := .agg #[.string { data := #[] }, .int .i64 0, .int .i64 4]) (by simp [results, Tryd.results44, go_sem, hc1, hz1]) rfl ⟨rfl, ?_⟩
        exact ((((((Below.refl _ _).alloc (Nat.le_refl _) _).trans (hb1.mono (by simp))).setCell (Nat.le_refl _) _).setCell (Nat.le_refl _) _).setCell (Nat.le_refl _) _).alloc (by simp; omega) _
      · have HO : Hid (textV s i = (s.extract m.toNat (m + n).toNat, m + n, 0)) := textV_ok hnum hn he
        rw [HO.out]
        clear HO hnum
        have hn0 : 0 ≤ n ∧ n ≤ 8000 := by omega
        clear hn
        have hsl : IntKind.i64.wrap (m + n) = m + n := by rw [IntKind.wrap_i64]; omega
        have hb0 : m ≤ m + n := by omega
        have hb2 : m + n ≤ (s.size : Int) := by omega
        go_enter Tryd.func44, Tryd.ntmps44
        go_wp2_with (go_at_call 62; refine (HR.out _).mono ?_; rintro e w1 ⟨rfl, hb1⟩; obtain ⟨hc1, hf1⟩ := bcell hb1; have hz1 : w.heap.size < w1.heap.size := by { have := hb1.size; simp at this; omega })
        go_region
        go_wp2
        refine bodyPost_ret (v := .agg #[.string (s.extract m.toNat (m + n).toNat), .int .i64 (m + n), .int .i64 0]) (by simp [results, Tryd.results44, go_sem, hc1, hz1]) rfl ⟨rfl, ?_⟩
        exact (((((((Below.refl _ _).alloc (Nat.le_refl _) _).trans (hb1.mono (by simp))).setCell (Nat.le_refl _) _).setCell (Nat.le_refl _) _).setCell (Nat.le_refl _) _).alloc (by simp; omega) _).drew
  · have HO : Hid (textV s i = ({ data := #[] }, 0, c)) := textV_code hnum hc
    rw [HO.out]
    clear HO hnum
    have hcz : (c == 0) = false := by simpa using hc
    go_enter Tryd.func44, Tryd.ntmps44
    go_wp2_with (go_at_call 62; refine (HR.out _).mono ?_; rintro e w1 ⟨rfl, hb1⟩; obtain ⟨hc1, hf1⟩ := bcell hb1; have hz1 : w.heap.size < w1.heap.size := by { have := hb1.size; simp at this; omega })
    refine bodyPost_ret (v := .agg #[.string { data := #[] }, .int .i64 0, .int .i64 c]) (by simp [results, Tryd.results44, go_sem, hc1, hz1]) rfl ⟨rfl, ?_⟩
    exact ((((((Below.refl _ _).alloc (Nat.le_refl _) _).trans (hb1.mono (by simp))).setCell (Nat.le_refl _) _).setCell (Nat.le_refl _) _).setCell (Nat.le_refl _) _).alloc (by simp; omega) _

theorem spec_out (s : ByteArray) (i : Int) (w : World) (hs : s.size ≤ maxLen) (w0 : (Lit.int .i64 i).wf = true) :
    Calls Tryd.prog 44 #[.string s, .int .i64 i] w fun e w' => e = .returned (.agg #[.string (textV s i).1, .int .i64 (textV s i).2.1, .int .i64 (textV s i).2.2]) ∧ Below w.heap.size w w' := spec_any s i w hs w0
end Go.Proofs.YtjnlffdopbfelaaDoor.ts
