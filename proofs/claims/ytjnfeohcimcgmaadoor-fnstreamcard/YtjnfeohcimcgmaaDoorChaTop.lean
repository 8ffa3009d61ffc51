/-
  The model's Block and Cipher at every argument: what the plain functions tell; no old block turns.
-/
import Derived.Test.YtjnfeohcimcgmaaDoorChaCipher
import Derived.Test.YtjnfeohcimcgmaaDoorChaWord
namespace Go.Proofs.YtjnfeohcimcgmaaDoor.cc
open Go.ChangeShapes Go.WideShapes Go.ChangeAt Go.RowKit
open Go.Proofs.YtjnfeohcimcgmaaDoor.sh (U)
set_option linter.unusedVariables false

theorem convU {w : World} {base : Nat} {v : Value} {n : Nat} {xs : List Int} (hn : 0 < n) (h : w.ownsRow base 5 1 v n (xs.map (Value.int .u8))) :
    (convert 22 9 v).run Tryd.prog w = .ok (.string (strOfNums xs)) w := by
  obtain ⟨hl, ⟨_, h0⟩ | ⟨g, cap, cur, rfl, hg, hh, h1, h2, h3, h4⟩⟩ := h
  · omega
  · have hlen : xs.length = n := by simpa using hl
    refine run_convert_bytes_arg (P := Tryd.prog) w 22 5 Tryd.underlying22 Tryd.underlying5 g 0 n cap xs hlen (fun i hi => ?_) 9 Tryd.underlying9
    have hc : (cur.toList.take (n * 1))[i]? = some (Value.int .u8 (xs.getD i 0)) := by
      rw [h4, List.getElem?_map, List.getElem?_eq_getElem (by omega)]
      simp [List.getD, List.getElem?_eq_getElem (show i < xs.length by omega)]
    rw [List.getElem?_take_of_lt (by omega)] at hc
    simp [World.cell?, hh]
    simpa using hc

set_option maxHeartbeats 2000000 in
theorem specBlock_any (key : ByteArray) (n : Int) (nonce : ByteArray) (w : World) (hk : key.size ≤ maxLen) (hn : nonce.size ≤ maxLen) :
    Calls Tryd.prog 30 #[.string key, .int .i64 n, .string nonce] w fun e w' => e = .returned (.string (blockA key n nonce)) ∧ Below w.heap.size w w' := by
  unfold maxLen at hk hn
  by_cases h1 : key.size = 32
  · by_cases h2 : nonce.size = 12
    · by_cases h3 : 0 ≤ n ∧ n ≤ 4294967295
      · have h4 : decide (0 ≤ n ∧ n ≤ 4294967295) = true := by simp [h3]
        rw [blockA_yes ⟨h1, h2, h3.1, h3.2⟩]
        obtain ⟨n0, n1⟩ := h3
        go_enter Tryd.func30, Tryd.ntmps30
        go_wp2_with (first | (go_at_call 61; refine (wordM_any n w).mono ?_; rw [h4]; rintro e w1 ⟨rfl, hw1⟩; obtain rfl := hw1.symm) | (go_at_call 63; refine (blockM_any key nonce n _ h1 h2 ⟨n0, n1⟩).mono ?_; rintro e w2 ⟨v, rfl, ho, hB2⟩; have hcv := convU (by decide) ho; clear ho))
        go_ret
        exact ⟨rfl, hB2⟩
      · have h4 : decide (0 ≤ n ∧ n ≤ 4294967295) = false := by simp [h3]
        rw [blockA_no (fun h => h3 ⟨h.2.2.1, h.2.2.2⟩)]
        go_enter Tryd.func30, Tryd.ntmps30
        go_wp2_with (go_at_call 61; refine (wordM_any n w).mono ?_; rw [h4]; rintro e w1 ⟨rfl, hw1⟩; obtain rfl := hw1.symm)
        go_ret
        exact ⟨rfl, Below.refl _ _⟩
    · rw [blockA_no (fun h => h2 h.2.1)]
      go_enter Tryd.func30, Tryd.ntmps30
      go_wp2
      go_ret
      exact ⟨rfl, Below.refl _ _⟩
  · rw [blockA_no (fun h => h1 h.1)]
    go_enter Tryd.func30, Tryd.ntmps30
    go_wp2
    go_ret
    exact ⟨rfl, Below.refl _ _⟩

set_option maxHeartbeats 2000000 in
theorem specCipher_any (key : ByteArray) (n : Int) (nonce t : ByteArray) (w : World) (hk : key.size ≤ maxLen) (hn : nonce.size ≤ maxLen) (ht : t.size ≤ maxLen) :
    Calls Tryd.prog 28 #[.string key, .int .i64 n, .string nonce, .string t] w fun e w' => e = .returned (.string (cipherA key n nonce t)) ∧ Below w.heap.size w w' := by
  unfold maxLen at hk hn ht
  by_cases h1 : key.size = 32
  · by_cases h2 : nonce.size = 12
    · by_cases h3 : 0 ≤ n ∧ n ≤ 4294967295
      · have h4 : decide (0 ≤ n ∧ n ≤ 4294967295) = true := by simp [h3]
        by_cases h5 : 8000 < t.size
        · rw [cipherA_no (fun h => by have := h.2.2.2; omega)]
          go_enter Tryd.func28, Tryd.ntmps28
          go_wp2_with (go_at_call 61; refine (wordM_any n w).mono ?_; rw [h4]; rintro e w1 ⟨rfl, hw1⟩; obtain rfl := hw1.symm)
          go_ret
          exact ⟨rfl, Below.refl _ _⟩
        · rw [cipherA_yes ⟨h1, h2, h3, by omega⟩]
          obtain ⟨n0, n1⟩ := h3
          go_enter Tryd.func28, Tryd.ntmps28
          go_wp2_with (first | (go_at_call 61; refine (wordM_any n w).mono ?_; rw [h4]; rintro e w1 ⟨rfl, hw1⟩; obtain rfl := hw1.symm) | (go_at_call 62; refine (cipherM_any key nonce t n _ h1 h2 ⟨n0, n1⟩ (by omega)).mono ?_; rintro e w2 ⟨rfl, hB2⟩))
          go_ret
          exact ⟨rfl, hB2⟩
      · have h4 : decide (0 ≤ n ∧ n ≤ 4294967295) = false := by simp [h3]
        rw [cipherA_no (fun h => h3 h.2.2.1)]
        go_enter Tryd.func28, Tryd.ntmps28
        go_wp2_with (go_at_call 61; refine (wordM_any n w).mono ?_; rw [h4]; rintro e w1 ⟨rfl, hw1⟩; obtain rfl := hw1.symm)
        go_ret
        exact ⟨rfl, Below.refl _ _⟩
    · rw [cipherA_no (fun h => h2 h.2.1)]
      go_enter Tryd.func28, Tryd.ntmps28
      go_wp2
      go_ret
      exact ⟨rfl, Below.refl _ _⟩
  · rw [cipherA_no (fun h => h1 h.1)]
    go_enter Tryd.func28, Tryd.ntmps28
    go_wp2
    go_ret
    exact ⟨rfl, Below.refl _ _⟩
end Go.Proofs.YtjnfeohcimcgmaaDoor.cc
