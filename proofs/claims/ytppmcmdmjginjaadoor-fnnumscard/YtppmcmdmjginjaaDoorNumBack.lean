/-
  A number comes back from its bytes, and of bytes that end too early nothing is got; so does a text: plain mathematics, no condition.
-/
import Derived.Test.YtppmcmdmjginjaaDoorTextPlain
import Derived.Test.YtppmcmdmjginjaaDoorPutText
namespace Go.Proofs.YtppmcmdmjginjaaDoor.nb
open Go.ChangeShapes Go.WideShapes Go.ChangeAt Go.RowKit
open Go.Proofs.YtppmcmdmjginjaaDoor.np Go.Proofs.YtppmcmdmjginjaaDoor.tp
set_option linter.unusedVariables false

theorem unf_fold {n : Int} (h : pn.i64P n) : unf (pn.fold n) = n := by
  unfold pn.fold unf
  split
  · rw [if_pos (by omega)]; omega
  · rw [if_neg (by omega)]; omega
theorem digs_pos (u : Nat) : 1 ≤ (pn.digs u).length := by
  unfold pn.digs; split <;> simp
theorem digs_lt (u : Nat) : ∀ j (hj : j < (pn.digs u).length), 0 ≤ (pn.digs u)[j] ∧ (pn.digs u)[j] < 256 := by
  induction u using Nat.strongRecOn with
  | _ u ih =>
    intro j hj
    by_cases hu : u < 128
    · have e := pn.digs_last hu
      simp only [e] at hj ⊢
      have : j = 0 := by simpa using hj
      subst this
      simp; omega
    · have e := pn.digs_more hu
      simp only [e] at hj ⊢
      match j, hj with
      | 0, _ => simp; omega
      | j + 1, hj =>
        have := ih (u / 128) (by omega) j (by simpa using hj)
        simpa using this
theorem back (s : ByteArray) (a : Nat) : ∀ (u k A : Nat), acc s a k = A → (0 < k → 0 < u) → A + u * 128 ^ k < 18446744073709551616 → k ≤ 9 → a + k + (pn.digs u).length ≤ s.size →
    (∀ j (hj : j < (pn.digs u).length), (byteAt s (a + k + j) : Int) = (pn.digs u)[j]) → go s a k ((9 - k) + 1) = (unf ((A + u * 128 ^ k : Nat) : Int), ((a + k + (pn.digs u).length : Nat) : Int), 0) := by
  intro u
  induction u using Nat.strongRecOn with
  | _ u ih =>
    intro k A hA hk0 hlt hk9 hsz hb
    have hl := digs_pos u
    have hb0 := hb 0 (by omega)
    by_cases hu : u < 128
    · have e := pn.digs_last hu
      simp only [e] at hb0 hsz ⊢
      simp at hb0 hsz ⊢
      have hbu : byteAt s (a + k) = u := by omega
      have h9 : ¬ (k = 9 ∧ 1 < byteAt s (a + k)) := by
        rintro ⟨rfl, h1⟩
        have : 2 * 128 ^ 9 ≤ u * 128 ^ 9 := Nat.mul_le_mul_right _ (by omega)
        have e9 : (128 : Nat) ^ 9 = 9223372036854775808 := by decide
        omega
      rw [go_last (by omega) h9 (by omega) (by intro h; have := hk0 h.2; omega)]
      have hac : acc s a (k + 1) = A + u * 128 ^ k := by
        rw [show acc s a (k + 1) = acc s a k + byteAt s (a + k) % 128 * 128 ^ k from rfl, hA, hbu, Nat.mod_eq_of_lt hu]
      rw [hac]
      simp
    · have e := pn.digs_more hu
      have hb1 : (byteAt s (a + k) : Int) = ((u % 128 + 128 : Nat) : Int) := by
        have := hb0
        simp only [e] at this
        simpa using this
      have hk8 : k ≤ 8 := by
        have := (pn.len_bound (u := u) (l := k) (by omega) (by omega)).1
        exact this
      rw [go_more (by omega) (by omega) (by omega)]
      have hmod : byteAt s (a + k) % 128 = u % 128 := by omega
      have hac : acc s a (k + 1) = A + u % 128 * 128 ^ k := by
        rw [show acc s a (k + 1) = acc s a k + byteAt s (a + k) % 128 * 128 ^ k from rfl, hA, hmod]
      have htot : A + u % 128 * 128 ^ k + u / 128 * 128 ^ (k + 1) = A + u * 128 ^ k := by
        have h1 : u / 128 * 128 ^ (k + 1) = (u / 128 * 128) * 128 ^ k := by rw [Nat.pow_succ, Nat.mul_comm (128 ^ k) 128, Nat.mul_assoc]
        rw [h1, Nat.add_assoc, ← Nat.add_mul, Nat.mod_add_div' u 128]
      have hlen : (pn.digs u).length = (pn.digs (u / 128)).length + 1 := by rw [e]; simp
      have r := ih (u / 128) (by omega) (k + 1) _ hac (fun _ => by omega) (by omega) (by omega) (by omega) (fun j hj => by
        have := hb (j + 1) (by omega)
        simp only [e] at this
        simp at this
        rw [← this]
        congr 2
        omega)
      rw [show (9 - k) = (9 - (k + 1)) + 1 by omega, r, htot, hlen]
      congr 3
      omega
theorem short (s : ByteArray) (a : Nat) : ∀ (u k : Nat), u * 128 ^ k < 18446744073709551616 → k ≤ 9 → a + k + (pn.digs u).length = s.size + 1 →
    (∀ j (hj : j < (pn.digs u).length), j + 1 < (pn.digs u).length → (byteAt s (a + k + j) : Int) = (pn.digs u)[j]) → go s a k ((9 - k) + 1) = (0, 0, 4) := by
  intro u
  induction u using Nat.strongRecOn with
  | _ u ih =>
    intro k hlt hk9 hsz hb
    have hl := digs_pos u
    by_cases hu : u < 128
    · have e := pn.digs_last hu
      simp only [e] at hsz
      simp at hsz
      exact go_end (by omega)
    · have e := pn.digs_more hu
      have hlen : (pn.digs u).length = (pn.digs (u / 128)).length + 1 := by rw [e]; simp
      have hl2 := digs_pos (u / 128)
      have hb1 : (byteAt s (a + k) : Int) = ((u % 128 + 128 : Nat) : Int) := by
        have := hb 0 (by omega) (by omega)
        simp only [e] at this
        simpa using this
      have hbd := pn.len_bound (u := u) (l := k) hlt (by omega)
      rw [go_more (by omega) (by omega) (by omega), show (9 - k) = (9 - (k + 1)) + 1 by omega]
      exact ih (u / 128) (by omega) (k + 1) hbd.2 (by omega) (by omega) (fun j hj hj2 => by
        have := hb (j + 1) (by omega) (by omega)
        simp only [e] at this
        simp at this
        rw [← this]
        congr 2
        omega)

theorem byteAt_list (s : ByteArray) (j : Nat) : byteAt s j = ((s.data.toList[j]?).getD 0).toNat := by
  unfold byteAt
  split
  · rename_i h
    have h' : j < s.data.toList.length := by simpa using h
    rw [List.getElem?_eq_getElem h']
    rfl
  · rename_i h
    have h' : s.data.toList.length ≤ j := by simpa using h
    rw [List.getElem?_eq_none h']
    rfl
/-- the bytes of a text that holds a number's bytes behind some others -/
theorem bytes_in {s x y : ByteArray} {n : Int} (h : s.data.toList = x.data.toList ++ ((pn.numB n).data.toList ++ y.data.toList)) (j : Nat) (hj : j < (pn.digs (pn.fold n).toNat).length) :
    (byteAt s (x.size + j) : Int) = (pn.digs (pn.fold n).toNat)[j] := by
  have hx : x.data.toList.length = x.size := by simp
  obtain ⟨d0, d1⟩ := digs_lt _ j hj
  rw [byteAt_list, h, List.getElem?_append_right (by omega), hx, show x.size + j - x.size = j by omega, pn.numB, strOfNums_data]
  rw [List.getElem?_append_left (by simpa using hj), List.getElem?_map, List.getElem?_eq_getElem hj]
  simp only [Option.map_some, Option.getD_some, UInt8.toNat_ofNat']
  rw [Nat.mod_eq_of_lt (by omega)]
  omega
theorem numB_size (n : Int) : (pn.numB n).size = (pn.digs (pn.fold n).toNat).length := by rw [pn.numB, strOfNums_size]
theorem numB_pos (n : Int) : 1 ≤ (pn.numB n).size := by rw [numB_size]; exact digs_pos _
/-- a number behind some bytes comes back -/
theorem num_back {s x y : ByteArray} {n : Int} (hn : pn.i64P n) (h : s.data.toList = x.data.toList ++ ((pn.numB n).data.toList ++ y.data.toList)) : getV s (x.size : Int) = (n, ((x.size + (pn.numB n).size : Nat) : Int), 0) := by
  have hf := pn.fold_u64 hn
  have hsz : s.size = x.size + ((pn.numB n).size + y.size) := by
    have := congrArg List.length h
    simpa using this
  rw [getV_pos, back s x.size (pn.fold n).toNat 0 0 rfl (by omega) (by omega) (by omega) (by rw [← numB_size]; omega) (fun j hj => by simpa using bytes_in h j hj)]
  rw [← numB_size]
  have e : ((0 + (pn.fold n).toNat * 128 ^ 0 : Nat) : Int) = pn.fold n := by simp; omega
  rw [e, unf_fold hn]
  simp
/-- of a number's bytes but the last nothing is got -/
theorem num_short {s : ByteArray} {n : Int} (hn : pn.i64P n) (h : s.data.toList = (pn.numB n).data.toList.take ((pn.numB n).size - 1)) : getV s (0 : Int) = (0, 0, 4) := by
  have hf := pn.fold_u64 hn
  have hp := numB_pos n
  have hsz : s.size = (pn.numB n).size - 1 := by
    have := congrArg List.length h
    simpa using this
  have h2 : (pn.numB n).data.toList = (ByteArray.empty).data.toList ++ ((pn.numB n).data.toList ++ (ByteArray.empty).data.toList) := by
    show _ = [] ++ (_ ++ [])
    simp
  have g := getV_pos (s := s) (a := 0)
  rw [show ((0 : Nat) : Int) = 0 from rfl] at g
  rw [g]
  refine short s 0 (pn.fold n).toNat 0 (by omega) (by omega) (by rw [← numB_size]; omega) (fun j hj hj2 => ?_)
  have hb := bytes_in h2 j hj
  rw [← hb]
  have e0 : (ByteArray.empty).size = 0 := rfl
  rw [e0, byteAt_list, byteAt_list, h, List.getElem?_take_of_lt (by rw [numB_size]; omega)]

theorem i64_small {k : Nat} (h : k ≤ 8000) : pn.i64P (k : Int) := by unfold pn.i64P; omega
/-- a text behind some bytes comes back -/
theorem text_back {s x u : ByteArray} (hu : u.size ≤ 8000) (hs : ¬ 8000 < s.size) (h : s.data.toList = x.data.toList ++ ((pn.numB (u.size : Int)).data.toList ++ u.data.toList)) :
    textV s (x.size : Int) = (u, ((x.size + (pn.numB (u.size : Int)).size + u.size : Nat) : Int), 0) := by
  have hsz : s.size = x.size + ((pn.numB (u.size : Int)).size + u.size) := by
    have := congrArg List.length h
    simpa using this
  have hn : numV s (x.size : Int) = ((u.size : Int), ((x.size + (pn.numB (u.size : Int)).size : Nat) : Int), 0) := by
    rw [numV_short hs]; exact num_back (i64_small hu) h
  rw [textV_ok hn (by omega) (by omega)]
  refine Prod.ext ?_ (Prod.ext (by simp) rfl)
  apply bytes_inj
  have hx : x.data.toList.length = x.size := by simp
  have hb : (pn.numB (u.size : Int)).data.toList.length = (pn.numB (u.size : Int)).size := by simp
  have hul : u.data.toList.length = u.size := by simp
  have e1 : ((x.size + (pn.numB (u.size : Int)).size : Nat) : Int).toNat = x.size + (pn.numB (u.size : Int)).size := by omega
  have e2 : (((x.size + (pn.numB (u.size : Int)).size : Nat) : Int) + (u.size : Int)).toNat = x.size + (pn.numB (u.size : Int)).size + u.size := by omega
  show (s.extract _ _).data.toList = u.data.toList
  rw [e1, e2]
  have ex : (s.extract (x.size + (pn.numB (u.size : Int)).size) (x.size + (pn.numB (u.size : Int)).size + u.size)).data.toList = (s.data.toList.drop (x.size + (pn.numB (u.size : Int)).size)).take (x.size + (pn.numB (u.size : Int)).size + u.size - (x.size + (pn.numB (u.size : Int)).size)) := by
    simp [ByteArray.data_extract]
  rw [ex, h, ← List.append_assoc, List.drop_append_of_le_length (by rw [List.length_append]; omega), List.drop_of_length_le (by rw [List.length_append]; omega), List.nil_append, List.take_of_length_le (by omega)]
/-- of a text's bytes but the last nothing is got -/
theorem text_short {s u : ByteArray} (hu : u.size ≤ 8000) (hs : ¬ 8000 < s.size) (h : s.data.toList = ((pn.numB (u.size : Int)).data.toList ++ u.data.toList).take ((pn.numB (u.size : Int)).size + u.size - 1)) : (textV s 0).2.2 = 4 := by
  have hp := numB_pos (u.size : Int)
  have hb : (pn.numB (u.size : Int)).data.toList.length = (pn.numB (u.size : Int)).size := by simp
  have hul : u.data.toList.length = u.size := by simp
  have hsz : s.size = (pn.numB (u.size : Int)).size + u.size - 1 := by
    have := congrArg List.length h
    rw [List.length_take, List.length_append, hb, hul] at this
    have e : s.data.toList.length = s.size := by simp
    omega
  by_cases h0 : u.size = 0
  · have hn : numV s 0 = (0, 0, 4) := by
      rw [numV_short hs]
      refine num_short (i64_small hu) ?_
      rw [h, List.take_append_of_le_length (by omega)]
      congr 1
      omega
    rw [textV_code hn (by decide)]
  · have hn : numV s 0 = ((u.size : Int), ((0 + (pn.numB (u.size : Int)).size : Nat) : Int), 0) := by
      rw [numV_short hs]
      have hx : s.data.toList = (ByteArray.empty).data.toList ++ ((pn.numB (u.size : Int)).data.toList ++ (⟨(u.data.toList.take (u.size - 1)).toArray⟩ : ByteArray).data.toList) := by
        show _ = [] ++ (_ ++ (u.data.toList.take (u.size - 1)))
        rw [h, List.nil_append, List.take_append, hb, List.take_of_length_le (by omega)]
        congr 2
        omega
      have := num_back (i64_small hu) hx
      exact this
    rw [textV_end hn (by omega) (by omega)]
end Go.Proofs.YtppmcmdmjginjaaDoor.nb
