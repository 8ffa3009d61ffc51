/-
  What is drawn for the law on macs: a key of at most 65 bytes and a text of at most 100; a text of at most 200; a pass of at most 9 and a number. No old block turns.
-/
import Derived.Test.YtppmcmdmjginjaaDoorDraw
import Derived.Deep.RegionWith
import Derived.Laws.IdiomStrings
namespace Go.Proofs.YtppmcmdmjginjaaDoor.dm
open Go.ChangeShapes Go.WideShapes Go.ChangeAt Go.RowKit
open Go.Proofs.YtppmcmdmjginjaaDoor.dr
set_option linter.unusedVariables false

theorem At.alloc {w0 u : World} {a : Option Addr} {len cap : Nat} (h : At w0 a len cap u) (o : Obj) : At w0 a len cap (u.alloc o) := by
  have hb : Below w0.heap.size u (u.alloc o) := (Below.refl _ _).alloc h.2.1.size _
  exact ⟨h.1.kept (Below.heap_alloc _ _ _ h.1.lt), h.2.1.trans hb, h.2.2.below hb⟩

theorem At.drew {w0 u : World} {a : Option Addr} {len cap : Nat} (h : At w0 a len cap u) : At w0 a len cap u.drew := ⟨h.1, h.2.1.drew, h.2.2.below (show Below w0.heap.size u u.drew from (Below.refl _ _).drew)⟩
set_option maxHeartbeats 1000000 in
theorem drawDigest_any (a : Option Addr) (len cap : Nat) (w : World) (hC : Codes w w.heap.size a len) :
    Calls Tryd.prog 17 #[.slice a len cap] w fun e w' => ∃ t : ByteArray, e = .returned (.string t) ∧ t.size ≤ 200 ∧ Below w.heap.size w w' := by
  have HC : Hid (Codes w w.heap.size a len) := hC
  clear hC
  go_enter Tryd.func17, Tryd.ntmps17
  go_wp2_with (first | (go_at_call 22; refine (source_at a len cap _ HC.out).mono ?_; rintro e w1 ⟨rfl, hA⟩) | (go_at_call 29; refine (n_at (by assumption) _ (by omega) (by omega)).mono ?_; rintro e w3 ⟨v, rfl, v0, v1, v2, hA⟩; have hv := v1 (by decide)) | (go_at_call 30; refine (bytes_at (by assumption) _ (by assumption) (by omega)).mono ?_; rintro e w4 ⟨t, rfl, ht, hA⟩))
  go_ret
  exact ⟨_, rfl, by omega, (show At w a len cap _ by assumption).2.1⟩

set_option maxHeartbeats 2000000 in
theorem drawMac_any (a : Option Addr) (len cap : Nat) (w : World) (hC : Codes w w.heap.size a len) :
    Calls Tryd.prog 13 #[.slice a len cap] w fun e w' => ∃ key t : ByteArray, e = .returned (.tuple #[.string key, .string t]) ∧ key.size ≤ 65 ∧ t.size ≤ 100 ∧ Below w.heap.size w w' := by
  have HC : Hid (Codes w w.heap.size a len) := hC
  clear hC
  go_enter Tryd.func13, Tryd.ntmps13
  go_wp2_with fail
  refine (source_at a len cap _ HC.out).mono ?_
  rintro e w1 ⟨rfl, hA1⟩
  go_wp2_with fail
  refine (n_at hA1 _ (by omega) (by omega)).mono ?_
  rintro e w2 ⟨v, rfl, v0, v1, v2, hA2⟩
  have hv := v1 (by decide)
  clear hA1
  go_wp2_with fail
  refine (bytes_at hA2 _ v0 (by omega)).mono ?_
  rintro e w3 ⟨key, rfl, hk, hA3⟩
  clear hA2
  go_wp2_with fail
  refine (one_at hA3 _ (by omega) (by omega)).mono ?_
  rintro e w4 ⟨vb, rfl, hA4⟩
  clear hA3
  cases vb
  · go_wp2_with fail
    refine (n_at hA4 _ (by omega) (by omega)).mono ?_
    rintro e w5 ⟨u, rfl, u0, u1, u2, hA5⟩
    have hu := u1 (by decide)
    go_wp2_with fail
    refine (bytes_at hA5 _ u0 (by omega)).mono ?_
    rintro e w6 ⟨t, rfl, ht, hA6⟩
    go_wp2_with fail
    go_ret2
    exact ⟨_, _, rfl, by omega, by omega, hA6.2.1⟩
  · go_wp2_with fail
    refine (n_at hA4 _ (by omega) (by omega)).mono ?_
    rintro e w5 ⟨x, rfl, x0, x1, x2, hA5⟩
    have hx := x1 (by decide)
    obtain ⟨k, rfl⟩ : ∃ k : Nat, x = (k : Int) := ⟨x.toNat, by omega⟩
    have hmk := zeros_make (63 + k) (by omega) w5
    have hcv := zeros_conv (63 + k) w5
    rw [show ((63 + k : Nat) : Int) = 63 + (k : Int) by omega] at hmk
    go_wp2_with fail
    refine (n_at (At.alloc hA5 _) _ (by omega) (by omega)).mono ?_
    rintro e w6 ⟨u, rfl, u0, u1, u2, hA6⟩
    have hu := u1 (by decide)
    clear hmk hcv
    go_wp2_with fail
    refine (bytes_at hA6 _ u0 (by omega)).mono ?_
    rintro e w7 ⟨t, rfl, ht, hA7⟩
    go_wp2_with fail
    go_ret2
    exact ⟨_, _, rfl, by simp [ByteArray.size]; omega, by omega, hA7.2.1⟩

theorem list_cell (u : World) (x : Int) (hx : -9223372036854775808 ≤ x ∧ x ≤ 9223372036854775807) (v : Nat) (hv : v < 5) :
    ∃ z : Int, (u.alloc (.cells #[.int .i64 0, .int .i64 1, .int .i64 100, .int .i64 101, .int .i64 x] 2)).cell? ⟨u.heap.size, v, none⟩ = some (.int .i64 z) ∧ -9223372036854775808 ≤ z ∧ z ≤ 9223372036854775807 := by
  match v, hv with
  | 0, _ => exact ⟨0, by simp, by omega, by omega⟩
  | 1, _ => exact ⟨1, by simp, by omega, by omega⟩
  | 2, _ => exact ⟨100, by simp, by omega, by omega⟩
  | 3, _ => exact ⟨101, by simp, by omega, by omega⟩
  | 4, _ => exact ⟨x, by simp, hx.1, hx.2⟩

theorem n_list {w0 u : World} {a : Option Addr} {len cap : Nat} (h : At w0 a len cap u) (x : Int) (x0 : -9223372036854775808 ≤ x) (x1 : x ≤ 9223372036854775807) :
    Calls Tryd.prog 29 #[.pointer (some ⟨w0.heap.size, 0, none⟩), .int .i64 5] (u.alloc (.cells #[.int .i64 0, .int .i64 1, .int .i64 100, .int .i64 101, .int .i64 x] 2)) fun e w' => ∃ (k : Nat) (z : Int), k < 5 ∧ e = .returned (.int .i64 (k : Int)) ∧ w'.cell? ⟨u.heap.size, k, none⟩ = some (.int .i64 z) ∧ -9223372036854775808 ≤ z ∧ z ≤ 9223372036854775807 ∧ At w0 a len cap w' := by
  have hA := At.alloc h (.cells #[.int .i64 0, .int .i64 1, .int .i64 100, .int .i64 101, .int .i64 x] 2)
  refine (n_any _ _ a len cap 5 _ hA.1 hA.2.2 (by omega) (by omega)).mono ?_
  rintro e w' ⟨v, rfl, v0, v1, v2, hS, hg⟩
  have hv := v1 (by decide)
  obtain ⟨k, rfl⟩ : ∃ k : Nat, v = (k : Int) := ⟨v.toNat, by omega⟩
  obtain ⟨z, hz, z0, z1⟩ := list_cell u x ⟨x0, x1⟩ k (by omega)
  have hlt : w0.heap.size < u.heap.size := h.1.lt
  exact ⟨k, z, by omega, rfl, hg.cell hz (by simp; omega), z0, z1, hA.next hS hg⟩

set_option maxHeartbeats 4000000 in
theorem drawStretch_any (a : Option Addr) (len cap : Nat) (w : World) (hC : Codes w w.heap.size a len) :
    Calls Tryd.prog 18 #[.slice a len cap] w fun e w' => ∃ (t : ByteArray) (n : Int), e = .returned (.tuple #[.string t, .int .i64 n]) ∧ t.size ≤ 9 ∧ -9223372036854775808 ≤ n ∧ n ≤ 9223372036854775807 ∧ Below w.heap.size w w' := by
  have HC : Hid (Codes w w.heap.size a len) := hC
  clear hC
  go_enter Tryd.func18, Tryd.ntmps18
  go_wp2_with fail
  refine (source_at a len cap _ HC.out).mono ?_
  rintro e w1 ⟨rfl, hA1⟩
  go_wp2_with fail
  refine (n_at hA1 _ (by omega) (by omega)).mono ?_
  rintro e w2 ⟨v, rfl, v0, v1, v2, hA2⟩
  have hv := v1 (by decide)
  clear hA1
  go_wp2_with fail
  refine (bytes_at hA2 _ v0 (by omega)).mono ?_
  rintro e w3 ⟨key, rfl, hk, hA3⟩
  clear hA2
  go_wp2_with fail
  refine (one_at hA3 _ (by omega) (by omega)).mono ?_
  rintro e w4 ⟨vb, rfl, hA4⟩
  clear hA3
  cases vb
  · go_wp2_with fail
    refine (n_at hA4 _ (by omega) (by omega)).mono ?_
    rintro e w5 ⟨u, rfl, u0, u1, u2, hA5⟩
    have hu := u1 (by decide)
    go_wp2_with fail
    go_ret2
    exact ⟨_, _, rfl, by omega, by omega, by omega, hA5.2.1⟩
  · go_wp2_with fail
    have hA4' : At w a len cap w4.drew := At.drew hA4
    have hp : w.heap.size < w4.heap.size := hA4.1.lt
    go_region_with (first | (go_at_call 35; refine (edge_at hA4').mono ?_; rintro e w5 ⟨x, rfl, x0, x1, hA5⟩) | (go_at_call 29; refine (n_list hA5 x x0 x1).mono ?_; rintro e w6 ⟨k, z, hk5, rfl, hz, z0, z1, hA6⟩; have hB6 := hA6.2.1) | (go_at_call 29; refine (n_at hA5 5 (by omega) (by omega)).mono ?_; rintro e w6 ⟨y, rfl, y0, y1, y2, hA6⟩; have hy := y1 (by decide); obtain ⟨k, rfl⟩ : ∃ k : Nat, y = (k : Int) := ⟨y.toNat, by omega⟩; obtain ⟨z, hz, z0, z1⟩ := list_cell w6 x ⟨x0, x1⟩ k (by omega); have hB6 := (hA6.2.1.alloc hA6.2.1.size (.cells #[.int .i64 0, .int .i64 1, .int .i64 100, .int .i64 101, .int .i64 x] 2))))
    all_goals
      go_wp2
      go_ret2
      exact ⟨_, _, rfl, by omega, z0, z1, hB6⟩
end Go.Proofs.YtppmcmdmjginjaaDoor.dm
