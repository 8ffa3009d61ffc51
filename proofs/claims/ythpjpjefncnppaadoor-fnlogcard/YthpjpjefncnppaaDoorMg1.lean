/-
  Plain mathematics of how a text is read from its bytes: no condition.
  What the model reads of a text from its bytes, by a plain function: no condition.
-/
import Derived.Test.YthpjpjefncnppaaDoorNumPlain
import Derived.Test.YthpjpjefncnppaaDoorGetNumM
import Derived.BigRegion
namespace Go.Proofs.YthpjpjefncnppaaDoor.tp
open Go.ChangeShapes Go.WideShapes Go.ChangeAt Go.RowKit
open Go.Proofs.YthpjpjefncnppaaDoor.np
set_option linter.unusedVariables false

theorem go_facts (s : ByteArray) (a : Nat) : ∀ f k, (go s a k f).2.2 = 0 → 0 ≤ (go s a k f).2.1 ∧ (go s a k f).2.1 ≤ s.size
  | 0, k => by simp [go]
  | f + 1, k => by
    by_cases h1 : s.size ≤ a + k
    · rw [go_end h1]; simp
    · by_cases h2 : k = 9 ∧ 1 < byteAt s (a + k)
      · obtain ⟨rfl, h2⟩ := h2
        rw [go_bad9 h1 h2]; simp
      · by_cases h3 : byteAt s (a + k) < 128
        · by_cases h4 : byteAt s (a + k) = 0 ∧ 0 < k
          · rw [go_zero h1 h4.1 h4.2]; simp
          · rw [go_last h1 h2 h3 h4]; intro _; constructor <;> simp <;> omega
        · have ih := go_facts s a f (k + 1)
          unfold go
          rw [if_neg h1, if_neg h2, if_neg h3]
          exact ih
theorem getV_facts {s : ByteArray} {i : Int} (h : (getV s i).2.2 = 0) : 0 ≤ (getV s i).2.1 ∧ (getV s i).2.1 ≤ s.size := by
  by_cases h2 : i < 0
  · rw [getV_neg h2] at h; simp at h
  · have e : i = (i.toNat : Int) := by omega
    have e2 : getV s i = go s i.toNat 0 10 := by rw [e]; exact getV_pos
    rw [e2] at h ⊢
    exact go_facts s _ _ _ h

/-- what is read of a text -/
def textV (s : ByteArray) (i : Int) : ByteArray × Int × Int :=
  if (numV s i).2.2 ≠ 0 then ({ data := #[] }, 0, (numV s i).2.2)
  else if (numV s i).1 < 0 ∨ 8000 < (numV s i).1 then ({ data := #[] }, 0, 3)
  else if (s.size : Int) < (numV s i).2.1 + (numV s i).1 then ({ data := #[] }, 0, 4)
  else (s.extract (numV s i).2.1.toNat ((numV s i).2.1 + (numV s i).1).toNat, (numV s i).2.1 + (numV s i).1, 0)
def outT (r : ByteArray × Int × Int) : Value := .agg #[.string r.1, .int .i64 r.2.1, .int .i64 r.2.2]

theorem textV_code {s : ByteArray} {i n m c : Int} (h : numV s i = (n, m, c)) (hc : c ≠ 0) : textV s i = ({ data := #[] }, 0, c) := by
  unfold textV; rw [h, if_pos hc]
theorem textV_len {s : ByteArray} {i n m : Int} (h : numV s i = (n, m, 0)) (hn : n < 0 ∨ 8000 < n) : textV s i = ({ data := #[] }, 0, 3) := by
  unfold textV; rw [h, if_neg (by simp), if_pos hn]
theorem textV_end {s : ByteArray} {i n m : Int} (h : numV s i = (n, m, 0)) (hn : ¬ (n < 0 ∨ 8000 < n)) (he : (s.size : Int) < m + n) : textV s i = ({ data := #[] }, 0, 4) := by
  unfold textV; rw [h, if_neg (by simp), if_neg hn, if_pos he]
theorem textV_ok {s : ByteArray} {i n m : Int} (h : numV s i = (n, m, 0)) (hn : ¬ (n < 0 ∨ 8000 < n)) (he : ¬ (s.size : Int) < m + n) : textV s i = (s.extract m.toNat (m + n).toNat, m + n, 0) := by
  unfold textV; rw [h, if_neg (by simp), if_neg hn, if_neg he]

theorem getV_code (s : ByteArray) (i : Int) : 0 ≤ (getV s i).2.2 := by
  have key : ∀ a f k, 0 ≤ (go s a k f).2.2 := by
    intro a f
    induction f with
    | zero => intro k; simp [go]
    | succ f ih =>
      intro k
      unfold go
      split
      · simp
      · split
        · simp
        · split
          · split <;> simp
          · exact ih _
  unfold getV; split
  · simp
  · exact key _ _ _

end Go.Proofs.YthpjpjefncnppaaDoor.tp

namespace Go.Proofs.YthpjpjefncnppaaDoor.ts
open Go.ChangeShapes Go.WideShapes Go.ChangeAt Go.RowKit
open Go.Proofs.YthpjpjefncnppaaDoor.np Go.Proofs.YthpjpjefncnppaaDoor.tp Go.Proofs.YthpjpjefncnppaaDoor.gs
set_option linter.unusedVariables false

theorem bcell {W w1 : World} (hb : Below W.heap.size W w1) : (∀ b o, b < W.heap.size → w1.cell? ⟨b, o, none⟩ = W.cell? ⟨b, o, none⟩) ∧ (∀ b o, b < W.heap.size → w1.frozen? ⟨b, o, none⟩ = W.frozen? ⟨b, o, none⟩) :=
  ⟨fun b o h => hb.cell (p := ⟨b, o, none⟩) h, fun b o h => hb.frozen (p := ⟨b, o, none⟩) h⟩

set_option maxHeartbeats 1000000 in
theorem spec_any (s : ByteArray) (i : Int) (w : World) (hs : s.size ≤ maxLen) (w0 : (Lit.int .i64 i).wf = true) :
    Calls Tryd.prog 48 #[.string s, .int .i64 i] w fun e w' => e = .returned (outT (textV s i)) ∧ Below w.heap.size w w' := by
  obtain ⟨n, m, c, hnum⟩ : ∃ n m c, numV s i = (n, m, c) := ⟨_, _, _, rfl⟩
  have hr := fun u => gs.spec_out s i u hs w0
  rw [hnum] at hr
  have HR : Hid (∀ u, Calls Tryd.prog 71 #[.string s, .int .i64 i] u fun e w' => e = .returned (.agg #[.int .i64 n, .int .i64 m, .int .i64 c]) ∧ Below u.heap.size u w') := hr
  clear hr
  have hs2 := hs
  unfold maxLen at hs2
  by_cases hc : c = 0
  · subst hc
    have hm : 0 ≤ m ∧ m ≤ s.size := by
      have h8 : ¬ 8000 < s.size := fun h => by rw [numV_long h] at hnum; simp at hnum
      rw [numV_short h8] at hnum
      have := getV_facts (s := s) (i := i) (by rw [hnum])
      rwa [hnum] at this
    have h8 : s.size ≤ 8000 := by
      have h8 : ¬ 8000 < s.size := fun h => by rw [numV_long h] at hnum; simp at hnum
      omega
    by_cases hn : n < 0 ∨ 8000 < n
    · have HO : Hid (textV s i = ({ data := #[] }, 0, 3)) := textV_len hnum hn
      rw [HO.out]
      clear HO hnum
      by_cases hn0 : n < 0
      · clear hn
        go_enter Tryd.func48, Tryd.ntmps48
        go_wp2_with (go_at_call 71; refine (HR.out _).mono ?_; rintro e w1 ⟨rfl, hb1⟩; obtain ⟨hc1, hf1⟩ := bcell hb1; have hz1 : w.heap.size < w1.heap.size := by { have := hb1.size; simp at this; omega })
        refine bodyPost_ret (v := .agg #[.string { data := #[] }, .int .i64 0, .int .i64 3]) (by simp [results, Tryd.results48, go_sem, hc1, hz1]) rfl ⟨rfl, ?_⟩
        exact ((((((Below.refl _ _).alloc (Nat.le_refl _) _).trans (hb1.mono (by simp))).setCell (Nat.le_refl _) _).setCell (Nat.le_refl _) _).setCell (Nat.le_refl _) _).alloc (by simp; omega) _
      · have hn1 : 8000 < n := by omega
        clear hn
        go_enter Tryd.func48, Tryd.ntmps48
        go_wp2_with (go_at_call 71; refine (HR.out _).mono ?_; rintro e w1 ⟨rfl, hb1⟩; obtain ⟨hc1, hf1⟩ := bcell hb1; have hz1 : w.heap.size < w1.heap.size := by { have := hb1.size; simp at this; omega })
        refine bodyPost_ret (v := .agg #[.string { data := #[] }, .int .i64 0, .int .i64 3]) (by simp [results, Tryd.results48, go_sem, hc1, hz1]) rfl ⟨rfl, ?_⟩
        exact ((((((Below.refl _ _).alloc (Nat.le_refl _) _).trans (hb1.mono (by simp))).setCell (Nat.le_refl _) _).setCell (Nat.le_refl _) _).setCell (Nat.le_refl _) _).alloc (by simp; omega) _
    · by_cases he : (s.size : Int) < m + n
      · have HO : Hid (textV s i = ({ data := #[] }, 0, 4)) := textV_end hnum hn he
        rw [HO.out]
        clear HO hnum
        have hn0 : 0 ≤ n ∧ n ≤ 8000 := by omega
        clear hn
        go_enter Tryd.func48, Tryd.ntmps48
        go_wp2_with (go_at_call 71; refine (HR.out _).mono ?_; rintro e w1 ⟨rfl, hb1⟩; obtain ⟨hc1, hf1⟩ := bcell hb1; have hz1 : w.heap.size < w1.heap.size := by { have := hb1.size; simp at this; omega })
        refine bodyPost_ret (v := .agg #[.string { data := #[] }, .int .i64 0, .int .i64 4]) (by simp [results, Tryd.results48, go_sem, hc1, hz1]) rfl ⟨rfl, ?_⟩
        exact ((((((Below.refl _ _).alloc (Nat.le_refl _) _).trans (hb1.mono (by simp))).setCell (Nat.le_refl _) _).setCell (Nat.le_refl _) _).setCell (Nat.le_refl _) _).alloc (by simp; omega) _
      · have HO : Hid (textV s i = (s.extract m.toNat (m + n).toNat, m + n, 0)) := textV_ok hnum hn he
        rw [HO.out]
        clear HO hnum
        have hn0 : 0 ≤ n ∧ n ≤ 8000 := by omega
        clear hn
        have hsl : IntKind.i64.wrap (m + n) = m + n := by rw [IntKind.wrap_i64]; omega
        have hb0 : m ≤ m + n := by omega
        have hb2 : m + n ≤ (s.size : Int) := by omega
        go_enter Tryd.func48, Tryd.ntmps48
        go_wp2_with (go_at_call 71; refine (HR.out _).mono ?_; rintro e w1 ⟨rfl, hb1⟩; obtain ⟨hc1, hf1⟩ := bcell hb1; have hz1 : w.heap.size < w1.heap.size := by { have := hb1.size; simp at this; omega })
        go_region
        go_wp2
        refine bodyPost_ret (v := .agg #[.string (s.extract m.toNat (m + n).toNat), .int .i64 (m + n), .int .i64 0]) (by simp [results, Tryd.results48, go_sem, hc1, hz1]) rfl ⟨rfl, ?_⟩
        exact (((((((Below.refl _ _).alloc (Nat.le_refl _) _).trans (hb1.mono (by simp))).setCell (Nat.le_refl _) _).setCell (Nat.le_refl _) _).setCell (Nat.le_refl _) _).alloc (by simp; omega) _).drew
  · have HO : Hid (textV s i = ({ data := #[] }, 0, c)) := textV_code hnum hc
    rw [HO.out]
    clear HO hnum
    have hcz : (c == 0) = false := by simpa using hc
    go_enter Tryd.func48, Tryd.ntmps48
    go_wp2_with (go_at_call 71; refine (HR.out _).mono ?_; rintro e w1 ⟨rfl, hb1⟩; obtain ⟨hc1, hf1⟩ := bcell hb1; have hz1 : w.heap.size < w1.heap.size := by { have := hb1.size; simp at this; omega })
    refine bodyPost_ret (v := .agg #[.string { data := #[] }, .int .i64 0, .int .i64 c]) (by simp [results, Tryd.results48, go_sem, hc1, hz1]) rfl ⟨rfl, ?_⟩
    exact ((((((Below.refl _ _).alloc (Nat.le_refl _) _).trans (hb1.mono (by simp))).setCell (Nat.le_refl _) _).setCell (Nat.le_refl _) _).setCell (Nat.le_refl _) _).alloc (by simp; omega) _

theorem spec_out (s : ByteArray) (i : Int) (w : World) (hs : s.size ≤ maxLen) (w0 : (Lit.int .i64 i).wf = true) :
    Calls Tryd.prog 48 #[.string s, .int .i64 i] w fun e w' => e = .returned (.agg #[.string (textV s i).1, .int .i64 (textV s i).2.1, .int .i64 (textV s i).2.2]) ∧ Below w.heap.size w w' := spec_any s i w hs w0
end Go.Proofs.YthpjpjefncnppaaDoor.ts
