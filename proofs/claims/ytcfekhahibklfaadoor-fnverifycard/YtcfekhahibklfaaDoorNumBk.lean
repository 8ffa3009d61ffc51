/-
  A number comes back from its bytes; what is read as a number stands there in just the bytes that the number has: plain mathematics, no condition.
-/
import Derived.Test.YtcfekhahibklfaaDoorNumPlain
import Derived.Test.YtcfekhahibklfaaDoorMg2
namespace Go.Proofs.YtcfekhahibklfaaDoor.nk
open Go.ChangeShapes Go.WideShapes Go.ChangeAt Go.RowKit
open Go.Proofs.YtcfekhahibklfaaDoor.np
set_option linter.unusedVariables false

theorem unf_fold {n : Int} (h : pn.i64P n) : unf (pn.fold n) = n := by
  unfold pn.fold unf
  split
  · rw [if_pos (by omega)]; omega
  · rw [if_neg (by omega)]; omega
theorem digs_pos (u : Nat) : 1 ≤ (pn.digs u).length := by
  by_cases h : u < 128
  · rw [pn.digs_last h]; simp
  · rw [pn.digs_more h]; simp
theorem digs_lt (u : Nat) : ∀ j (hj : j < (pn.digs u).length), 0 ≤ (pn.digs u)[j] ∧ (pn.digs u)[j] < 256 := by
  induction u using Nat.strongRecOn with
  | _ u ih =>
    intro j hj
    by_cases hu : u < 128
    · have e := pn.digs_last hu
      simp only [e] at hj ⊢
      have : j = 0 := by simpa using hj
      subst this
      simp; omega
    · have e := pn.digs_more hu
      simp only [e] at hj ⊢
      match j, hj with
      | 0, _ => simp; omega
      | j + 1, hj =>
        have := ih (u / 128) (by omega) j (by simpa using hj)
        simpa using this
theorem back (s : ByteArray) (a : Nat) : ∀ (u k A : Nat), acc s a k = A → (0 < k → 0 < u) → A + u * 128 ^ k < 18446744073709551616 → k ≤ 9 → a + k + (pn.digs u).length ≤ s.size →
    (∀ j (hj : j < (pn.digs u).length), (byteAt s (a + k + j) : Int) = (pn.digs u)[j]) → go s a k ((9 - k) + 1) = (unf ((A + u * 128 ^ k : Nat) : Int), ((a + k + (pn.digs u).length : Nat) : Int), 0) := by
  intro u
  induction u using Nat.strongRecOn with
  | _ u ih =>
    intro k A hA hk0 hlt hk9 hsz hb
    have hl := digs_pos u
    have hb0 := hb 0 (by omega)
    by_cases hu : u < 128
    · have e := pn.digs_last hu
      simp only [e] at hb0 hsz ⊢
      simp at hb0 hsz ⊢
      have hbu : byteAt s (a + k) = u := by omega
      have h9 : ¬ (k = 9 ∧ 1 < byteAt s (a + k)) := by
        rintro ⟨rfl, h1⟩
        have : 2 * 128 ^ 9 ≤ u * 128 ^ 9 := Nat.mul_le_mul_right _ (by omega)
        have e9 : (128 : Nat) ^ 9 = 9223372036854775808 := by decide
        omega
      rw [go_last (by omega) h9 (by omega) (by intro h; have := hk0 h.2; omega)]
      have hac : acc s a (k + 1) = A + u * 128 ^ k := by
        rw [show acc s a (k + 1) = acc s a k + byteAt s (a + k) % 128 * 128 ^ k from rfl, hA, hbu, Nat.mod_eq_of_lt hu]
      rw [hac]
      simp
    · have e := pn.digs_more hu
      have hb1 : (byteAt s (a + k) : Int) = ((u % 128 + 128 : Nat) : Int) := by
        have := hb0
        simp only [e] at this
        simpa using this
      have hk8 : k ≤ 8 := by
        have := (pn.len_bound (u := u) (l := k) (by omega) (by omega)).1
        exact this
      rw [go_more (by omega) (by omega) (by omega)]
      have hmod : byteAt s (a + k) % 128 = u % 128 := by omega
      have hac : acc s a (k + 1) = A + u % 128 * 128 ^ k := by
        rw [show acc s a (k + 1) = acc s a k + byteAt s (a + k) % 128 * 128 ^ k from rfl, hA, hmod]
      have htot : A + u % 128 * 128 ^ k + u / 128 * 128 ^ (k + 1) = A + u * 128 ^ k := by
        have h1 : u / 128 * 128 ^ (k + 1) = (u / 128 * 128) * 128 ^ k := by rw [Nat.pow_succ, Nat.mul_comm (128 ^ k) 128, Nat.mul_assoc]
        rw [h1, Nat.add_assoc, ← Nat.add_mul, Nat.mod_add_div' u 128]
      have hlen : (pn.digs u).length = (pn.digs (u / 128)).length + 1 := by rw [e]; simp
      have r := ih (u / 128) (by omega) (k + 1) _ hac (fun _ => by omega) (by omega) (by omega) (by omega) (fun j hj => by
        have := hb (j + 1) (by omega)
        simp only [e] at this
        simp at this
        rw [← this]
        congr 2
        omega)
      rw [show (9 - k) = (9 - (k + 1)) + 1 by omega, r, htot, hlen]
      congr 3
      omega
theorem short (s : ByteArray) (a : Nat) : ∀ (u k : Nat), u * 128 ^ k < 18446744073709551616 → k ≤ 9 → a + k + (pn.digs u).length = s.size + 1 →
    (∀ j (hj : j < (pn.digs u).length), j + 1 < (pn.digs u).length → (byteAt s (a + k + j) : Int) = (pn.digs u)[j]) → go s a k ((9 - k) + 1) = (0, 0, 4) := by
  intro u
  induction u using Nat.strongRecOn with
  | _ u ih =>
    intro k hlt hk9 hsz hb
    have hl := digs_pos u
    by_cases hu : u < 128
    · have e := pn.digs_last hu
      simp only [e] at hsz
      simp at hsz
      exact go_end (by omega)
    · have e := pn.digs_more hu
      have hlen : (pn.digs u).length = (pn.digs (u / 128)).length + 1 := by rw [e]; simp
      have hl2 := digs_pos (u / 128)
      have hb1 : (byteAt s (a + k) : Int) = ((u % 128 + 128 : Nat) : Int) := by
        have := hb 0 (by omega) (by omega)
        simp only [e] at this
        simpa using this
      have hbd := pn.len_bound (u := u) (l := k) hlt (by omega)
      rw [go_more (by omega) (by omega) (by omega), show (9 - k) = (9 - (k + 1)) + 1 by omega]
      exact ih (u / 128) (by omega) (k + 1) hbd.2 (by omega) (by omega) (fun j hj hj2 => by
        have := hb (j + 1) (by omega) (by omega)
        simp only [e] at this
        simp at this
        rw [← this]
        congr 2
        omega)

theorem byteAt_list (s : ByteArray) (j : Nat) : byteAt s j = ((s.data.toList[j]?).getD 0).toNat := by
  unfold byteAt
  split
  · rename_i h
    have h' : j < s.data.toList.length := by simpa using h
    rw [List.getElem?_eq_getElem h']
    rfl
  · rename_i h
    have h' : s.data.toList.length ≤ j := by simpa using h
    rw [List.getElem?_eq_none h']
    rfl
/-- the bytes of a text that holds a number's bytes behind some others -/
theorem bytes_in {s x y : ByteArray} {n : Int} (h : s.data.toList = x.data.toList ++ ((pn.numB n).data.toList ++ y.data.toList)) (j : Nat) (hj : j < (pn.digs (pn.fold n).toNat).length) :
    (byteAt s (x.size + j) : Int) = (pn.digs (pn.fold n).toNat)[j] := by
  have hx : x.data.toList.length = x.size := by simp
  obtain ⟨d0, d1⟩ := digs_lt _ j hj
  rw [byteAt_list, h, List.getElem?_append_right (by omega), hx, show x.size + j - x.size = j by omega, pn.numB, strOfNums_data]
  rw [List.getElem?_append_left (by simpa using hj), List.getElem?_map, List.getElem?_eq_getElem hj]
  simp only [Option.map_some, Option.getD_some, UInt8.toNat_ofNat']
  rw [Nat.mod_eq_of_lt (by omega)]
  omega
theorem numB_size (n : Int) : (pn.numB n).size = (pn.digs (pn.fold n).toNat).length := by rw [pn.numB, strOfNums_size]
theorem numB_pos (n : Int) : 1 ≤ (pn.numB n).size := by rw [numB_size]; exact digs_pos _
/-- a number behind some bytes comes back -/
theorem num_back {s x y : ByteArray} {n : Int} (hn : pn.i64P n) (h : s.data.toList = x.data.toList ++ ((pn.numB n).data.toList ++ y.data.toList)) : getV s (x.size : Int) = (n, ((x.size + (pn.numB n).size : Nat) : Int), 0) := by
  have hf := pn.fold_u64 hn
  have hsz : s.size = x.size + ((pn.numB n).size + y.size) := by
    have := congrArg List.length h
    simpa using this
  rw [getV_pos, back s x.size (pn.fold n).toNat 0 0 rfl (by omega) (by omega) (by omega) (by rw [← numB_size]; omega) (fun j hj => by simpa using bytes_in h j hj)]
  rw [← numB_size]
  have e : ((0 + (pn.fold n).toNat * 128 ^ 0 : Nat) : Int) = pn.fold n := by simp; omega
  rw [e, unf_fold hn]
  simp
/-- of a number's bytes but the last nothing is got -/
theorem num_short {s : ByteArray} {n : Int} (hn : pn.i64P n) (h : s.data.toList = (pn.numB n).data.toList.take ((pn.numB n).size - 1)) : getV s (0 : Int) = (0, 0, 4) := by
  have hf := pn.fold_u64 hn
  have hp := numB_pos n
  have hsz : s.size = (pn.numB n).size - 1 := by
    have := congrArg List.length h
    simpa using this
  have h2 : (pn.numB n).data.toList = (ByteArray.empty).data.toList ++ ((pn.numB n).data.toList ++ (ByteArray.empty).data.toList) := by
    show _ = [] ++ (_ ++ [])
    simp
  have g := getV_pos (s := s) (a := 0)
  rw [show ((0 : Nat) : Int) = 0 from rfl] at g
  rw [g]
  refine short s 0 (pn.fold n).toNat 0 (by omega) (by omega) (by rw [← numB_size]; omega) (fun j hj hj2 => ?_)
  have hb := bytes_in h2 j hj
  rw [← hb]
  have e0 : (ByteArray.empty).size = 0 := rfl
  rw [e0, byteAt_list, byteAt_list, h, List.getElem?_take_of_lt (by rw [numB_size]; omega)]


/-- what is read by the last byte k: where it ends, and what the bytes ahead are -/
theorem go_ok (s : ByteArray) (a : Nat) : ∀ (f k : Nat) (N A : Int), k + f = 10 → go s a k f = (N, A, 0) →
    ∃ m, k ≤ m ∧ m ≤ 9 ∧ A = ((a + m + 1 : Nat) : Int) ∧ N = unf (acc s a (m + 1) : Int) ∧ a + m < s.size ∧ ¬ (m = 9 ∧ 1 < byteAt s (a + m)) ∧ byteAt s (a + m) < 128 ∧ ¬ (byteAt s (a + m) = 0 ∧ 0 < m) ∧ ∀ j, k ≤ j → j < m → 128 ≤ byteAt s (a + j)
  | 0, k, N, A, hk, h => by simp [go] at h
  | f + 1, k, N, A, hk, h => by
    unfold go at h
    split at h
    · simp at h
    · rename_i h1
      split at h
      · simp at h
      · rename_i h2
        split at h
        · rename_i h3
          split at h
          · simp at h
          · rename_i h4
            simp only [Prod.mk.injEq, and_true] at h
            exact ⟨k, Nat.le_refl _, by omega, h.2.symm, h.1.symm, by omega, h2, h3, h4, fun j h5 h6 => by omega⟩
        · rename_i h3
          obtain ⟨m, g1, g2, g3, g4, g5, g6, g7, g8, g9⟩ := go_ok s a f (k + 1) N A (by omega) h
          exact ⟨m, by omega, g2, g3, g4, g5, g6, g7, g8, fun j h5 h6 => by
            rcases Nat.lt_or_ge k j with h7 | h7
            · exact g9 j h7 h6
            · obtain rfl : j = k := by omega
              omega⟩

/-- the value of the bytes from place j to place m -/
def tail (s : ByteArray) (a : Nat) (m : Nat) : Nat → Nat
  | 0 => byteAt s (a + m)
  | d + 1 => byteAt s (a + m - (d + 1)) % 128 + 128 * tail s a m d
theorem acc_tail (s : ByteArray) (a m : Nat) (hm : byteAt s (a + m) < 128) : ∀ d, d ≤ m → acc s a (m + 1) = acc s a (m - d) + tail s a m d * 128 ^ (m - d)
  | 0, _ => by
    show acc s a m + byteAt s (a + m) % 128 * 128 ^ m = _
    rw [Nat.mod_eq_of_lt hm]
    rfl
  | d + 1, h => by
    rw [acc_tail s a m hm d (by omega)]
    obtain ⟨q, hq⟩ : ∃ q, m - d = q + 1 := ⟨m - d - 1, by omega⟩
    have e1 : m - (d + 1) = q := by omega
    have e2 : a + m - (d + 1) = a + q := by omega
    rw [hq, e1, tail, e2]
    show acc s a q + byteAt s (a + q) % 128 * 128 ^ q + tail s a m d * 128 ^ (q + 1) = _
    rw [Nat.add_mul, Nat.pow_succ, Nat.mul_assoc 128, Nat.add_assoc]
    congr 2
    rw [Nat.mul_comm 128, Nat.mul_assoc, Nat.mul_comm (128 ^ q)]
theorem tail_pos (s : ByteArray) (a m : Nat) (h : 0 < byteAt s (a + m)) : ∀ d, 0 < tail s a m d
  | 0 => h
  | d + 1 => by have := tail_pos s a m h d; unfold tail; omega
theorem digs_tail (s : ByteArray) (a m : Nat) (hm : byteAt s (a + m) < 128) (h0 : ¬ (byteAt s (a + m) = 0 ∧ 0 < m)) (hb : ∀ j, j < m → 128 ≤ byteAt s (a + j)) :
    ∀ d, d ≤ m → pn.digs (tail s a m d) = (List.range (d + 1)).map fun j => (byteAt s (a + (m - d) + j) : Int)
  | 0, _ => by rw [tail, pn.digs_last hm]; rfl
  | d + 1, h => by
    have hp := tail_pos s a m (by omega) d
    have h1 := hb (m - (d + 1)) (by omega)
    have h2 := byteAt_lt s (a + (m - (d + 1)))
    have e : a + m - (d + 1) = a + (m - (d + 1)) := by omega
    rw [tail, e, pn.digs_more (by omega)]
    have e1 : (byteAt s (a + (m - (d + 1))) % 128 + 128 * tail s a m d) / 128 = tail s a m d := by omega
    have e2 : (byteAt s (a + (m - (d + 1))) % 128 + 128 * tail s a m d) % 128 + 128 = byteAt s (a + (m - (d + 1))) := by omega
    rw [e1, e2, digs_tail s a m hm h0 hb d (by omega), List.range_succ_eq_map (n := d + 1), List.map_cons, List.map_map]
    congr 1
    refine List.map_congr_left fun j _ => ?_
    have e3 : a + (m - d) + j = a + (m - (d + 1)) + (j + 1) := by omega
    simp only [Function.comp, Nat.succ_eq_add_one]
    rw [e3]
theorem fold_unf {u : Int} (h0 : 0 ≤ u) : pn.fold (unf u) = u := by
  unfold unf pn.fold
  split
  · rw [if_pos (by omega)]; omega
  · rw [if_neg (by omega)]; omega
/-- what is read as a number at the beginning stands there in that number's bytes -/
theorem num_canon {s : ByteArray} {N A : Int} (h : getV s 0 = (N, A, 0)) : ∃ k : Nat, A = (k : Int) ∧ k ≤ s.size ∧ s.extract 0 k = pn.numB N ∧ pn.i64P N := by
  have g := getV_pos (s := s) (a := 0)
  rw [show ((0 : Nat) : Int) = 0 from rfl, h] at g
  obtain ⟨m, -, m9, rfl, rfl, h1, h2, h3, h4, h5⟩ := go_ok s 0 10 0 N A (by omega) g.symm
  refine ⟨0 + m + 1, rfl, by omega, ?_, ?_⟩
  · have hac := acc_tail s 0 m h3 m (Nat.le_refl _)
    rw [Nat.sub_self] at hac
    have e : acc s 0 (m + 1) = tail s 0 m m := by rw [hac]; simp [acc]
    rw [pn.numB, fold_unf (by omega), e, Int.toNat_natCast, digs_tail s 0 m h3 h4 (fun j hj => h5 j (Nat.zero_le _) hj) m (Nat.le_refl _)]
    apply ByteArray.ext
    apply Array.ext'
    rw [strOfNums_data]
    apply List.ext_getElem
    · simp; omega
    · intro i hi hi'
      have hi2 : i < m + 1 := by simpa using hi'
      have hs : i < s.data.toList.length := by simp; omega
      have hb := byteAt_list s i
      rw [List.getElem?_eq_getElem hs] at hb
      simp only [Option.getD_some] at hb
      simp [hb]
  · have := acc_u64 (s := s) (a := 0) (k := m) (by omega) h2
    unfold pn.i64P unf
    split <;> omega
end Go.Proofs.YtcfekhahibklfaaDoor.nk
