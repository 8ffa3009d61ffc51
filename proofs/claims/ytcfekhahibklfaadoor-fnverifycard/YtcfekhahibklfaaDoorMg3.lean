/-
  Plain mathematics of how a text is read from its bytes: no condition.
  What the model reads of a text from its bytes, by a plain function: no condition.
  Plain mathematics of how a text is read from bytes that go on: what is read of a beginning is read of the whole; a text behind some bytes, and ahead of others, comes back. No condition.
-/
import Derived.Test.YtcfekhahibklfaaDoorNumPlain
import Derived.Test.YtcfekhahibklfaaDoorMg2
import Derived.BigRegion
import Derived.Test.YtcfekhahibklfaaDoorNumBk
namespace Go.Proofs.YtcfekhahibklfaaDoor.tp
open Go.ChangeShapes Go.WideShapes Go.ChangeAt Go.RowKit
open Go.Proofs.YtcfekhahibklfaaDoor.np
set_option linter.unusedVariables false

theorem go_facts (s : ByteArray) (a : Nat) : ∀ f k, (go s a k f).2.2 = 0 → 0 ≤ (go s a k f).2.1 ∧ (go s a k f).2.1 ≤ s.size
  | 0, k => by simp [go]
  | f + 1, k => by
    by_cases h1 : s.size ≤ a + k
    · rw [go_end h1]; simp
    · by_cases h2 : k = 9 ∧ 1 < byteAt s (a + k)
      · obtain ⟨rfl, h2⟩ := h2
        rw [go_bad9 h1 h2]; simp
      · by_cases h3 : byteAt s (a + k) < 128
        · by_cases h4 : byteAt s (a + k) = 0 ∧ 0 < k
          · rw [go_zero h1 h4.1 h4.2]; simp
          · rw [go_last h1 h2 h3 h4]; intro _; constructor <;> simp <;> omega
        · have ih := go_facts s a f (k + 1)
          unfold go
          rw [if_neg h1, if_neg h2, if_neg h3]
          exact ih
theorem getV_facts {s : ByteArray} {i : Int} (h : (getV s i).2.2 = 0) : 0 ≤ (getV s i).2.1 ∧ (getV s i).2.1 ≤ s.size := by
  by_cases h2 : i < 0
  · rw [getV_neg h2] at h; simp at h
  · have e : i = (i.toNat : Int) := by omega
    have e2 : getV s i = go s i.toNat 0 10 := by rw [e]; exact getV_pos
    rw [e2] at h ⊢
    exact go_facts s _ _ _ h

/-- what is read of a text -/
def textV (s : ByteArray) (i : Int) : ByteArray × Int × Int :=
  if (numV s i).2.2 ≠ 0 then ({ data := #[] }, 0, (numV s i).2.2)
  else if (numV s i).1 < 0 ∨ 8000 < (numV s i).1 then ({ data := #[] }, 0, 3)
  else if (s.size : Int) < (numV s i).2.1 + (numV s i).1 then ({ data := #[] }, 0, 4)
  else (s.extract (numV s i).2.1.toNat ((numV s i).2.1 + (numV s i).1).toNat, (numV s i).2.1 + (numV s i).1, 0)
def outT (r : ByteArray × Int × Int) : Value := .agg #[.string r.1, .int .i64 r.2.1, .int .i64 r.2.2]

theorem textV_code {s : ByteArray} {i n m c : Int} (h : numV s i = (n, m, c)) (hc : c ≠ 0) : textV s i = ({ data := #[] }, 0, c) := by
  unfold textV; rw [h, if_pos hc]
theorem textV_len {s : ByteArray} {i n m : Int} (h : numV s i = (n, m, 0)) (hn : n < 0 ∨ 8000 < n) : textV s i = ({ data := #[] }, 0, 3) := by
  unfold textV; rw [h, if_neg (by simp), if_pos hn]
theorem textV_end {s : ByteArray} {i n m : Int} (h : numV s i = (n, m, 0)) (hn : ¬ (n < 0 ∨ 8000 < n)) (he : (s.size : Int) < m + n) : textV s i = ({ data := #[] }, 0, 4) := by
  unfold textV; rw [h, if_neg (by simp), if_neg hn, if_pos he]
theorem textV_ok {s : ByteArray} {i n m : Int} (h : numV s i = (n, m, 0)) (hn : ¬ (n < 0 ∨ 8000 < n)) (he : ¬ (s.size : Int) < m + n) : textV s i = (s.extract m.toNat (m + n).toNat, m + n, 0) := by
  unfold textV; rw [h, if_neg (by simp), if_neg hn, if_neg he]

theorem getV_code (s : ByteArray) (i : Int) : 0 ≤ (getV s i).2.2 := by
  have key : ∀ a f k, 0 ≤ (go s a k f).2.2 := by
    intro a f
    induction f with
    | zero => intro k; simp [go]
    | succ f ih =>
      intro k
      unfold go
      split
      · simp
      · split
        · simp
        · split
          · split <;> simp
          · exact ih _
  unfold getV; split
  · simp
  · exact key _ _ _

end Go.Proofs.YtcfekhahibklfaaDoor.tp

namespace Go.Proofs.YtcfekhahibklfaaDoor.ts
open Go.ChangeShapes Go.WideShapes Go.ChangeAt Go.RowKit
open Go.Proofs.YtcfekhahibklfaaDoor.np Go.Proofs.YtcfekhahibklfaaDoor.tp Go.Proofs.YtcfekhahibklfaaDoor.gs
set_option linter.unusedVariables false

theorem bcell {W w1 : World} (hb : Below W.heap.size W w1) : (∀ b o, b < W.heap.size → w1.cell? ⟨b, o, none⟩ = W.cell? ⟨b, o, none⟩) ∧ (∀ b o, b < W.heap.size → w1.frozen? ⟨b, o, none⟩ = W.frozen? ⟨b, o, none⟩) :=
  ⟨fun b o h => hb.cell (p := ⟨b, o, none⟩) h, fun b o h => hb.frozen (p := ⟨b, o, none⟩) h⟩

set_option maxHeartbeats 1000000 in
theorem spec_any (s : ByteArray) (i : Int) (w : World) (hs : s.size ≤ maxLen) (w0 : (Lit.int .i64 i).wf = true) :
    Calls Tryd.prog 48 #[.string s, .int .i64 i] w fun e w' => e = .returned (outT (textV s i)) ∧ Below w.heap.size w w' := by
  obtain ⟨n, m, c, hnum⟩ : ∃ n m c, numV s i = (n, m, c) := ⟨_, _, _, rfl⟩
  have hr := fun u => gs.spec_out s i u hs w0
  rw [hnum] at hr
  have HR : Hid (∀ u, Calls Tryd.prog 71 #[.string s, .int .i64 i] u fun e w' => e = .returned (.agg #[.int .i64 n, .int .i64 m, .int .i64 c]) ∧ Below u.heap.size u w') := hr
  clear hr
  have hs2 := hs
  unfold maxLen at hs2
  by_cases hc : c = 0
  · subst hc
    have hm : 0 ≤ m ∧ m ≤ s.size := by
      have h8 : ¬ 8000 < s.size := fun h => by rw [numV_long h] at hnum; simp at hnum
      rw [numV_short h8] at hnum
      have := getV_facts (s := s) (i := i) (by rw [hnum])
      rwa [hnum] at this
    have h8 : s.size ≤ 8000 := by
      have h8 : ¬ 8000 < s.size := fun h => by rw [numV_long h] at hnum; simp at hnum
      omega
    by_cases hn : n < 0 ∨ 8000 < n
    · have HO : Hid (textV s i = ({ data := #[] }, 0, 3)) := textV_len hnum hn
      rw [HO.out]
      clear HO hnum
      by_cases hn0 : n < 0
      · clear hn
        go_enter Tryd.func48, Tryd.ntmps48
        go_wp2_with (go_at_call 71; refine (HR.out _).mono ?_; rintro e w1 ⟨rfl, hb1⟩; obtain ⟨hc1, hf1⟩ := bcell hb1; have hz1 : w.heap.size < w1.heap.size := by { have := hb1.size; simp at this; omega })
        refine bodyPost_ret (v := .agg #[.string { data := #[] }, .int .i64 0, .int .i64 3]) (by simp [results, Tryd.results48, go_sem, hc1, hz1]) rfl ⟨rfl, ?_⟩
        exact ((((((Below.refl _ _).alloc (Nat.le_refl _) _).trans (hb1.mono (by simp))).setCell (Nat.le_refl _) _).setCell (Nat.le_refl _) _).setCell (Nat.le_refl _) _).alloc (by simp; omega) _
      · have hn1 : 8000 < n := by omega
        clear hn
        go_enter Tryd.func48, Tryd.ntmps48
        go_wp2_with (go_at_call 71; refine (HR.out _).mono ?_; rintro e w1 ⟨rfl, hb1⟩; obtain ⟨hc1, hf1⟩ := bcell hb1; have hz1 : w.heap.size < w1.heap.size := by { have := hb1.size; simp at this; omega })
        refine bodyPost_ret (v := .agg #[.string { data := #[] }, .int .i64 0, .int .i64 3]) (by simp [results, Tryd.results48, go_sem, hc1, hz1]) rfl ⟨rfl, ?_⟩
        exact ((((((Below.refl _ _).alloc (Nat.le_refl _) _).trans (hb1.mono (by simp))).setCell (Nat.le_refl _) _).setCell (Nat.le_refl _) _).setCell (Nat.le_refl _) _).alloc (by simp; omega) _
    · by_cases he : (s.size : Int) < m + n
      · have HO : Hid (textV s i = ({ data := #[] }, 0, 4)) := textV_end hnum hn he
        rw [HO.out]
        clear HO hnum
        have hn0 : 0 ≤ n ∧ n ≤ 8000 := by omega
        clear hn
        go_enter Tryd.func48, Tryd.ntmps48
        go_wp2_with (go_at_call 71; refine (HR.out _).mono ?_; rintro e w1 ⟨rfl, hb1⟩; obtain ⟨hc1, hf1⟩ := bcell hb1; have hz1 : w.heap.size < w1.heap.size := by { have := hb1.size; simp at this; omega })
        refine bodyPost_ret (v := .agg #[.string { data := #[] }, .int .i64 0, .int .i64 4]) (by simp [results, Tryd.results48, go_sem, hc1, hz1]) rfl ⟨rfl, ?_⟩
        exact ((((((Below.refl _ _).alloc (Nat.le_refl _) _).trans (hb1.mono (by simp))).setCell (Nat.le_refl _) _).setCell (Nat.le_refl _) _).setCell (Nat.le_refl _) _).alloc (by simp; omega) _
      · have HO : Hid (textV s i = (s.extract m.toNat (m + n).toNat, m + n, 0)) := textV_ok hnum hn he
        rw [HO.out]
        clear HO hnum
        have hn0 : 0 ≤ n ∧ n ≤ 8000 := by omega
        clear hn
        have hsl : IntKind.i64.wrap (m + n) = m + n := by rw [IntKind.wrap_i64]; omega
        have hb0 : m ≤ m + n := by omega
        have hb2 : m + n ≤ (s.size : Int) := by omega
        go_enter Tryd.func48, Tryd.ntmps48
        go_wp2_with (go_at_call 71; refine (HR.out _).mono ?_; rintro e w1 ⟨rfl, hb1⟩; obtain ⟨hc1, hf1⟩ := bcell hb1; have hz1 : w.heap.size < w1.heap.size := by { have := hb1.size; simp at this; omega })
        go_region
        go_wp2
        refine bodyPost_ret (v := .agg #[.string (s.extract m.toNat (m + n).toNat), .int .i64 (m + n), .int .i64 0]) (by simp [results, Tryd.results48, go_sem, hc1, hz1]) rfl ⟨rfl, ?_⟩
        exact (((((((Below.refl _ _).alloc (Nat.le_refl _) _).trans (hb1.mono (by simp))).setCell (Nat.le_refl _) _).setCell (Nat.le_refl _) _).setCell (Nat.le_refl _) _).alloc (by simp; omega) _).drew
  · have HO : Hid (textV s i = ({ data := #[] }, 0, c)) := textV_code hnum hc
    rw [HO.out]
    clear HO hnum
    have hcz : (c == 0) = false := by simpa using hc
    go_enter Tryd.func48, Tryd.ntmps48
    go_wp2_with (go_at_call 71; refine (HR.out _).mono ?_; rintro e w1 ⟨rfl, hb1⟩; obtain ⟨hc1, hf1⟩ := bcell hb1; have hz1 : w.heap.size < w1.heap.size := by { have := hb1.size; simp at this; omega })
    refine bodyPost_ret (v := .agg #[.string { data := #[] }, .int .i64 0, .int .i64 c]) (by simp [results, Tryd.results48, go_sem, hc1, hz1]) rfl ⟨rfl, ?_⟩
    exact ((((((Below.refl _ _).alloc (Nat.le_refl _) _).trans (hb1.mono (by simp))).setCell (Nat.le_refl _) _).setCell (Nat.le_refl _) _).setCell (Nat.le_refl _) _).alloc (by simp; omega) _

theorem spec_out (s : ByteArray) (i : Int) (w : World) (hs : s.size ≤ maxLen) (w0 : (Lit.int .i64 i).wf = true) :
    Calls Tryd.prog 48 #[.string s, .int .i64 i] w fun e w' => e = .returned (.agg #[.string (textV s i).1, .int .i64 (textV s i).2.1, .int .i64 (textV s i).2.2]) ∧ Below w.heap.size w w' := spec_any s i w hs w0
end Go.Proofs.YtcfekhahibklfaaDoor.ts

namespace Go.Proofs.YtcfekhahibklfaaDoor.lg
open Go.ChangeShapes Go.WideShapes Go.ChangeAt Go.RowKit
open Go.Proofs.YtcfekhahibklfaaDoor.np Go.Proofs.YtcfekhahibklfaaDoor.tp
set_option linter.unusedVariables false

/-- the first bytes of the other -/
def Pre (s t : ByteArray) : Prop := ∃ y, t.data.toList = s.data.toList ++ y
theorem len_data (s : ByteArray) : s.data.toList.length = s.size := by simp
theorem Pre.size_le {s t : ByteArray} (h : Pre s t) : s.size ≤ t.size := by
  obtain ⟨y, e⟩ := h
  have := congrArg List.length e
  rw [List.length_append, len_data, len_data] at this
  omega
theorem Pre.byte {s t : ByteArray} (h : Pre s t) {j : Nat} (hj : j < s.size) : byteAt t j = byteAt s j := by
  obtain ⟨y, e⟩ := h
  rw [nk.byteAt_list, nk.byteAt_list, e, List.getElem?_append_left (by rw [len_data]; exact hj)]
theorem extract_list (s : ByteArray) (m n : Nat) : (s.extract m n).data.toList = (s.data.toList.drop m).take (n - m) := by
  simp [ByteArray.data_extract]
theorem Pre.extract {s t : ByteArray} (h : Pre s t) {m n : Nat} (hn : n ≤ s.size) : t.extract m n = s.extract m n := by
  obtain ⟨y, e⟩ := h
  apply bytes_inj
  rw [extract_list, extract_list, e]
  by_cases hm : m ≤ n
  · rw [List.drop_append_of_le_length (by rw [len_data]; omega), List.take_append_of_le_length (by rw [List.length_drop, len_data]; omega)]
  · rw [show n - m = 0 by omega, List.take_zero, List.take_zero]
theorem acc_congr {s t : ByteArray} {a : Nat} : ∀ k, (∀ j, j < k → byteAt t (a + j) = byteAt s (a + j)) → acc t a k = acc s a k
  | 0, _ => rfl
  | k + 1, h => by
    show acc t a k + byteAt t (a + k) % 128 * 128 ^ k = acc s a k + byteAt s (a + k) % 128 * 128 ^ k
    rw [acc_congr k fun j hj => h j (by omega), h k (by omega)]
theorem go_pre {s t : ByteArray} (h : Pre s t) {a : Nat} : ∀ f k, (go s a k f).2.2 = 0 → go t a k f = go s a k f
  | 0, k, hc => rfl
  | f + 1, k, hc => by
    by_cases h1 : s.size ≤ a + k
    · rw [go_end h1] at hc; simp at hc
    · have h1t : ¬ t.size ≤ a + k := by have := h.size_le; omega
      have hb : byteAt t (a + k) = byteAt s (a + k) := h.byte (by omega)
      by_cases h2 : k = 9 ∧ 1 < byteAt s (a + k)
      · obtain ⟨rfl, h2⟩ := h2
        rw [go_bad9 h1 h2] at hc; simp at hc
      · by_cases h3 : byteAt s (a + k) < 128
        · by_cases h4 : byteAt s (a + k) = 0 ∧ 0 < k
          · rw [go_zero h1 h4.1 h4.2] at hc; simp at hc
          · rw [go_last h1 h2 h3 h4, go_last h1t (by rw [hb]; exact h2) (by rw [hb]; exact h3) (by rw [hb]; exact h4), acc_congr (k + 1) fun j hj => h.byte (by omega)]
        · have e1 : go s a k (f + 1) = go s a (k + 1) f := by
            conv => lhs; unfold go
            rw [if_neg h1, if_neg h2, if_neg h3]
          have e2 : go t a k (f + 1) = go t a (k + 1) f := by
            conv => lhs; unfold go
            rw [if_neg h1t, hb, if_neg h2, if_neg h3]
          rw [e1] at hc ⊢
          rw [e2]
          exact go_pre h f (k + 1) hc
theorem getV_pre {s t : ByteArray} (h : Pre s t) {i : Int} (hc : (getV s i).2.2 = 0) : getV t i = getV s i := by
  unfold getV at hc ⊢
  split
  · rfl
  · rename_i hi
    rw [if_neg hi] at hc
    exact go_pre h _ _ hc
theorem numV_pre {s t : ByteArray} (h : Pre s t) (ht : ¬ 8000 < t.size) {i : Int} (hc : (numV s i).2.2 = 0) : numV t i = numV s i := by
  have hs : ¬ 8000 < s.size := by have := h.size_le; omega
  rw [numV_short hs] at hc ⊢
  rw [numV_short ht]
  exact getV_pre h hc
theorem numV_facts {s : ByteArray} {i : Int} (h : (numV s i).2.2 = 0) : 0 ≤ (numV s i).2.1 ∧ (numV s i).2.1 ≤ s.size := by
  by_cases hs : 8000 < s.size
  · rw [numV_long hs] at h; simp at h
  · rw [numV_short hs] at h ⊢
    exact getV_facts h
/-- a text that is read stands there -/
theorem textV_facts {s : ByteArray} {i : Int} (h : (textV s i).2.2 = 0) : (numV s i).2.2 = 0 ∧ (0 ≤ (numV s i).1 ∧ (numV s i).1 ≤ 8000) ∧ (numV s i).2.1 + (numV s i).1 ≤ s.size ∧
    textV s i = (s.extract (numV s i).2.1.toNat ((numV s i).2.1 + (numV s i).1).toNat, (numV s i).2.1 + (numV s i).1, 0) := by
  unfold textV at h ⊢
  by_cases h1 : (numV s i).2.2 ≠ 0
  · rw [if_pos h1] at h; exact absurd h h1
  · rw [if_neg h1] at h ⊢
    by_cases h2 : (numV s i).1 < 0 ∨ 8000 < (numV s i).1
    · rw [if_pos h2] at h; simp at h
    · rw [if_neg h2] at h ⊢
      by_cases h3 : (s.size : Int) < (numV s i).2.1 + (numV s i).1
      · rw [if_pos h3] at h; simp at h
      · rw [if_neg h3]
        exact ⟨by omega, by omega, by omega, rfl⟩
theorem textV_range {s : ByteArray} {i : Int} (h : (textV s i).2.2 = 0) : 0 ≤ (textV s i).2.1 ∧ (textV s i).2.1 ≤ s.size ∧ ((textV s i).1.size : Int) ≤ 8000 := by
  obtain ⟨h1, h2, h3, h4⟩ := textV_facts h
  have h5 := numV_facts h1
  rw [h4]
  refine ⟨by show 0 ≤ (numV s i).2.1 + (numV s i).1; omega, h3, ?_⟩
  show ((s.extract _ _).size : Int) ≤ 8000
  rw [ByteArray.size_extract]
  omega
theorem textV_pre {s t : ByteArray} (h : Pre s t) (ht : ¬ 8000 < t.size) {i : Int} (hc : (textV s i).2.2 = 0) : textV t i = textV s i := by
  obtain ⟨h1, h2, h3, h4⟩ := textV_facts hc
  have e := numV_pre h ht h1
  have hl := h.size_le
  have h5 := numV_facts h1
  rw [h4]
  have hn : numV t i = ((numV s i).1, (numV s i).2.1, 0) := by rw [e]; exact Prod.ext rfl (Prod.ext rfl h1)
  rw [textV_ok hn (by omega) (by omega), h.extract (by omega)]
/-- at the end nothing is read -/
theorem textV_end_at {s : ByteArray} (hs : ¬ 8000 < s.size) : (textV s (s.size : Int)).2.2 = 4 := by
  have e : numV s (s.size : Int) = (0, 0, 4) := by
    rw [numV_short hs, getV_pos]
    exact go_end (by omega)
  rw [textV_code e (by decide)]
/-- a text behind some bytes and ahead of others comes back -/
theorem text_at {s x u y : ByteArray} (hu : u.size ≤ 8000) (hs : ¬ 8000 < s.size) (h : s.data.toList = x.data.toList ++ ((pn.numB (u.size : Int)).data.toList ++ (u.data.toList ++ y.data.toList))) :
    textV s (x.size : Int) = (u, ((x.size + (pn.numB (u.size : Int)).size + u.size : Nat) : Int), 0) := by
  have hsz : s.size = x.size + ((pn.numB (u.size : Int)).size + (u.size + y.size)) := by
    have := congrArg List.length h
    simpa using this
  have hi : pn.i64P (u.size : Int) := by unfold pn.i64P; omega
  have hn : numV s (x.size : Int) = ((u.size : Int), ((x.size + (pn.numB (u.size : Int)).size : Nat) : Int), 0) := by
    rw [numV_short hs]; exact nk.num_back (y := u ++ y) hi (by rw [h]; simp)
  rw [textV_ok hn (by omega) (by omega)]
  refine Prod.ext ?_ (Prod.ext (by simp) rfl)
  apply bytes_inj
  have e1 : ((x.size + (pn.numB (u.size : Int)).size : Nat) : Int).toNat = x.size + (pn.numB (u.size : Int)).size := by omega
  have e2 : (((x.size + (pn.numB (u.size : Int)).size : Nat) : Int) + (u.size : Int)).toNat = x.size + (pn.numB (u.size : Int)).size + u.size := by omega
  show (s.extract _ _).data.toList = u.data.toList
  rw [e1, e2, extract_list, h, ← List.append_assoc, List.drop_append_of_le_length (by rw [List.length_append, len_data, len_data]; omega), List.drop_of_length_le (by rw [List.length_append, len_data, len_data]; omega), List.nil_append, List.take_append_of_le_length (by rw [len_data]; omega), List.take_of_length_le (by rw [len_data]; omega)]
end Go.Proofs.YtcfekhahibklfaaDoor.lg
