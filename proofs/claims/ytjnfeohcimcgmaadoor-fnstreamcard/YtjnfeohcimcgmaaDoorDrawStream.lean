/-
  What is drawn for the law on the stream: keys of 31 to 33 bytes, nonces of 11 to 13, numbers from -1 to 2^32, a text of at most 149 bytes; four numbers. No old block turns.
-/
import Derived.Test.YtjnfeohcimcgmaaDoorDraw
import Derived.Deep.RegionWith
import Derived.Laws.IdiomStrings
namespace Go.Proofs.YtjnfeohcimcgmaaDoor.ds
open Go.ChangeShapes Go.WideShapes Go.ChangeAt Go.RowKit
open Go.Proofs.YtjnfeohcimcgmaaDoor.dr
set_option linter.unusedVariables false

theorem At.alloc {w0 u : World} {a : Option Addr} {len cap : Nat} (h : At w0 a len cap u) (o : Obj) : At w0 a len cap (u.alloc o) := by
  have hb : Below w0.heap.size u (u.alloc o) := (Below.refl _ _).alloc h.2.1.size _
  exact ⟨h.1.kept (Below.heap_alloc _ _ _ h.1.lt), h.2.1.trans hb, h.2.2.below hb⟩
theorem num_cell (u : World) (v : Nat) (hv : v < 4) :
    ∃ z : Int, (u.alloc (.cells #[.int .i64 (-1), .int .i64 0, .int .i64 4294967295, .int .i64 4294967296] 2)).cell? ⟨u.heap.size, v, none⟩ = some (.int .i64 z) ∧ -1 ≤ z ∧ z ≤ 4294967296 := by
  match v, hv with
  | 0, _ => exact ⟨-1, by simp, by omega, by omega⟩
  | 1, _ => exact ⟨0, by simp, by omega, by omega⟩
  | 2, _ => exact ⟨4294967295, by simp, by omega, by omega⟩
  | 3, _ => exact ⟨4294967296, by simp, by omega, by omega⟩
theorem n_num {w0 u : World} {a : Option Addr} {len cap : Nat} (h : At w0 a len cap u) :
    Calls Tryd.prog 47 #[.pointer (some ⟨w0.heap.size, 0, none⟩), .int .i64 4] (u.alloc (.cells #[.int .i64 (-1), .int .i64 0, .int .i64 4294967295, .int .i64 4294967296] 2)) fun e w' => ∃ (k : Nat) (z : Int), k < 4 ∧ e = .returned (.int .i64 (k : Int)) ∧ w'.cell? ⟨u.heap.size, k, none⟩ = some (.int .i64 z) ∧ -1 ≤ z ∧ z ≤ 4294967296 ∧ At w0 a len cap w' := by
  have hA := At.alloc h (.cells #[.int .i64 (-1), .int .i64 0, .int .i64 4294967295, .int .i64 4294967296] 2)
  refine (n_any _ _ a len cap 4 _ hA.1 hA.2.2 (by omega) (by omega)).mono ?_
  rintro e w' ⟨v, rfl, v0, v1, v2, hS, hg⟩
  have hv := v1 (by decide)
  obtain ⟨k, rfl⟩ : ∃ k : Nat, v = (k : Int) := ⟨v.toNat, by omega⟩
  obtain ⟨z, hz, z0, z1⟩ := num_cell u k (by omega)
  have hlt : w0.heap.size < u.heap.size := h.1.lt
  exact ⟨k, z, by omega, rfl, hg.cell hz (by simp; omega), z0, z1, hA.next hS hg⟩

set_option maxHeartbeats 2000000 in
theorem num_at {w0 u : World} {a : Option Addr} {len cap : Nat} (h : At w0 a len cap u) :
    Calls Tryd.prog 57 #[.pointer (some ⟨w0.heap.size, 0, none⟩)] u fun e w' => ∃ v : Int, e = .returned (.int .i64 v) ∧ -1 ≤ v ∧ v ≤ 4294967296 ∧ At w0 a len cap w' := by
  go_enter Tryd.func57, Tryd.ntmps57
  go_wp2_with fail
  refine (n_at h _ (by omega) (by omega)).mono ?_
  rintro e w1 ⟨v, rfl, v0, v1, v2, hA1⟩
  have hv := v1 (by decide)
  clear h
  by_cases hv0 : v = 0
  · subst hv0
    go_wp2_with fail
    refine (n_num hA1).mono ?_
    rintro e w2 ⟨k, z, hk, rfl, hz, z0, z1, hA2⟩
    go_wp2_with fail
    go_ret
    exact ⟨z, rfl, z0, z1, hA2⟩
  · by_cases hv1 : v = 1
    · subst hv1
      go_wp2_with fail
      refine (n_at hA1 _ (by omega) (by omega)).mono ?_
      rintro e w2 ⟨x, rfl, x0, x1, x2, hA2⟩
      have hx := x1 (by decide)
      go_wp2_with fail
      go_ret
      exact ⟨_, rfl, by omega, by omega, hA2⟩
    · have e0 : (v == 0) = false := by simpa using hv0
      have e1 : (v == 1) = false := by simpa using hv1
      go_wp2_with fail
      refine (n_at hA1 _ (by omega) (by omega)).mono ?_
      rintro e w2 ⟨x, rfl, x0, x1, x2, hA2⟩
      have hx := x1 (by decide)
      go_wp2_with fail
      go_ret
      exact ⟨_, rfl, by omega, by omega, hA2⟩

set_option maxHeartbeats 2000000 in
theorem bytes3_at {w0 u : World} {a : Option Addr} {len cap : Nat} (h : At w0 a len cap u) (n : Int) (n0 : 1 ≤ n) (n1 : n ≤ 1000) :
    Calls Tryd.prog 56 #[.pointer (some ⟨w0.heap.size, 0, none⟩), .int .i64 n] u fun e w' => ∃ t : ByteArray, e = .returned (.string t) ∧ (t.size : Int) ≤ n + 1 ∧ At w0 a len cap w' := by
  go_enter Tryd.func56, Tryd.ntmps56
  go_wp2_with fail
  refine (one_at h _ (by omega) (by omega)).mono ?_
  rintro e w1 ⟨vb, rfl, hA1⟩
  clear h
  cases vb
  · go_wp2_with fail
    refine (bytes_at hA1 _ (by omega) (by omega)).mono ?_
    rintro e w2 ⟨t, rfl, ht, hA2⟩
    go_wp2_with fail
    go_ret
    exact ⟨_, rfl, by omega, hA2⟩
  · go_wp2_with fail
    refine (n_at hA1 _ (by omega) (by omega)).mono ?_
    rintro e w2 ⟨x, rfl, x0, x1, x2, hA2⟩
    have hx := x1 (by decide)
    go_wp2_with fail
    refine (bytes_at hA2 _ (by omega) (by omega)).mono ?_
    rintro e w3 ⟨t, rfl, ht, hA3⟩
    go_wp2_with fail
    go_ret
    exact ⟨_, rfl, by omega, hA3⟩

theorem results4 {fn : Func} {t u v x : Tmp} (h : fn.results = #[.tmp t, .tmp u, .tmp v, .tmp x]) (tmps : Array Value) (P : Program) (w : World) :
    (results fn tmps).run P w = .ok (.tuple #[tmps.getD t undef, tmps.getD u undef, tmps.getD v undef, tmps.getD x undef]) w := by
  simp [results, h]

set_option maxHeartbeats 4000000 in
theorem drawCipher_any (a : Option Addr) (len cap : Nat) (w : World) (hC : Codes w w.heap.size a len) :
    Calls Tryd.prog 24 #[.slice a len cap] w fun e w' => ∃ (key : ByteArray) (n : Int) (nonce t : ByteArray), e = .returned (.tuple #[.string key, .int .i64 n, .string nonce, .string t]) ∧ key.size ≤ 33 ∧ nonce.size ≤ 13 ∧ t.size ≤ 149 ∧ -1 ≤ n ∧ n ≤ 4294967296 ∧ Below w.heap.size w w' := by
  have HC : Hid (Codes w w.heap.size a len) := hC
  clear hC
  go_enter Tryd.func24, Tryd.ntmps24
  go_wp2_with fail
  refine (source_at a len cap _ HC.out).mono ?_
  rintro e w1 ⟨rfl, hA1⟩
  go_wp2_with fail
  refine (bytes3_at hA1 _ (by omega) (by omega)).mono ?_
  rintro e w2 ⟨key, rfl, hk, hA2⟩
  clear hA1
  go_wp2_with fail
  refine (num_at hA2).mono ?_
  rintro e w3 ⟨n, rfl, n0, n1, hA3⟩
  clear hA2
  go_wp2_with fail
  refine (bytes3_at hA3 _ (by omega) (by omega)).mono ?_
  rintro e w4 ⟨nonce, rfl, hn, hA4⟩
  clear hA3
  go_wp2_with fail
  refine (n_at hA4 _ (by omega) (by omega)).mono ?_
  rintro e w5 ⟨x, rfl, x0, x1, x2, hA5⟩
  have hx := x1 (by decide)
  clear hA4
  go_wp2_with fail
  refine (bytes_at hA5 _ x0 (by omega)).mono ?_
  rintro e w6 ⟨t, rfl, ht, hA6⟩
  clear hA5
  go_wp2_with fail
  (try simp only [Exit.inBlock, Exit.then])
  refine bodyPost_ret (results4 rfl _ _ _) rfl ?_
  exact ⟨_, _, _, _, rfl, by omega, by omega, by omega, n0, n1, hA6.2.1⟩

set_option maxHeartbeats 4000000 in
theorem drawBlock_any (a : Option Addr) (len cap : Nat) (w : World) (hC : Codes w w.heap.size a len) :
    Calls Tryd.prog 26 #[.slice a len cap] w fun e w' => ∃ (key : ByteArray) (n : Int) (nonce : ByteArray), e = .returned (.tuple #[.string key, .int .i64 n, .string nonce]) ∧ key.size ≤ 33 ∧ nonce.size ≤ 13 ∧ -1 ≤ n ∧ n ≤ 4294967296 ∧ Below w.heap.size w w' := by
  have HC : Hid (Codes w w.heap.size a len) := hC
  clear hC
  go_enter Tryd.func26, Tryd.ntmps26
  go_wp2_with fail
  refine (source_at a len cap _ HC.out).mono ?_
  rintro e w1 ⟨rfl, hA1⟩
  go_wp2_with fail
  refine (bytes3_at hA1 _ (by omega) (by omega)).mono ?_
  rintro e w2 ⟨key, rfl, hk, hA2⟩
  clear hA1
  go_wp2_with fail
  refine (num_at hA2).mono ?_
  rintro e w3 ⟨n, rfl, n0, n1, hA3⟩
  clear hA2
  go_wp2_with fail
  refine (bytes3_at hA3 _ (by omega) (by omega)).mono ?_
  rintro e w4 ⟨nonce, rfl, hn, hA4⟩
  clear hA3
  go_wp2_with fail
  go_ret3
  exact ⟨_, _, _, rfl, by omega, by omega, n0, n1, hA4.2.1⟩
end Go.Proofs.YtjnfeohcimcgmaaDoor.ds
