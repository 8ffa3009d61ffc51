/-
  The program's four numbers that are mixed, and its test of a number of 32 bits: what the plain functions tell; no block turns.
-/
import Derived.Test.YtneahcoakbbdaaaDoorChaFour
import Derived.Deep.MidRow
import Derived.Deep.Cut
import Derived.Deep.RegionWith
import Derived.BigRegion
import Derived.BigQuiet
import Derived.Deep.QuietTactic
import Derived.WalkSpells
import Derived.WalkSmall
import Derived.Laws.Tables
import Derived.Laws.CopyOwn
import Derived.Laws.IdiomStrings
namespace Go.Proofs.YtneahcoakbbdaaaDoor.cc
open Go.ChangeShapes Go.WideShapes Go.ChangeAt Go.RowKit
open Go.Proofs.YtneahcoakbbdaaaDoor.sh (U wr xor bits_U wr_U)
open Go.Lib (byteCells)
set_option linter.unusedVariables false

set_option maxHeartbeats 1000000 in
theorem leftI_any (x : Int) (k : Nat) (w : World) (hk : 0 < k ∧ k < 32) (hx : U x) :
    Calls Tryd.prog 110 #[.int .u32 x, .int .i64 (k : Int)] w fun e w' => e = .returned (.int .u32 (rotl k x)) ∧ w' = w := by
  have e1 : bits BinOp.and IntKind.u64 (k : Int) 31 = (k : Int) := by
    obtain ⟨h0, h1⟩ := hk
    have : ∀ k : Fin 32, bits BinOp.and IntKind.u64 (k.val : Int) 31 = (k.val : Int) := by decide
    exact this ⟨k, h1⟩
  have e2 : IntKind.u64.wrap (k : Int) = (k : Int) := by rw [IntKind.wrap_u64]; omega
  have e0 : ((32 : Int) - k).toNat = 32 - k := by omega
  go_enter Tryd.func110, Tryd.ntmps110
  go_wp2
  go_ret
  refine ⟨congrArg (fun y => Ending.returned (.int .u32 y)) ?_, rfl⟩
  unfold rotl wr
  rw [IntKind.wrap_u32]

theorem m_U (a b c d : Int) : U (m2a a b c d) ∧ U (m2b a b c d) ∧ U (m2c a b c d) ∧ U (m2d a b c d) := ⟨wr_U _, rotl_U _ _, wr_U _, rotl_U _ _⟩
theorem ret4 {a b c d a' b' c' d' : Int} (h0 : a = a') (h1 : b = b') (h2 : c = c') (h3 : d = d') : Ending.returned (.tuple #[.int .u32 a, .int .u32 b, .int .u32 c, .int .u32 d]) = .returned (.tuple #[.int .u32 a', .int .u32 b', .int .u32 c', .int .u32 d']) := by rw [h0, h1, h2, h3]

theorem results_tmp4 {fn : Func} {t u v x : Tmp} (h : fn.results = #[.tmp t, .tmp u, .tmp v, .tmp x]) (tmps : Array Value) (P : Program) (w : World) :
    (results fn tmps).run P w = .ok (.tuple #[tmps.getD t undef, tmps.getD u undef, tmps.getD v undef, tmps.getD x undef]) w := by
  simp [results, h]
set_option maxHeartbeats 2000000 in
theorem four_any (a b c d : Int) (w : World) (ha : U a) (hb : U b) (hc : U c) (hd : U d) :
    Calls Tryd.prog 97 #[.int .u32 a, .int .u32 b, .int .u32 c, .int .u32 d] w fun e w' => e = .returned (.tuple #[.int .u32 (m2a a b c d), .int .u32 (m2b a b c d), .int .u32 (m2c a b c d), .int .u32 (m2d a b c d)]) ∧ w' = w := by
  go_enter Tryd.func97, Tryd.ntmps97
  go_wp2_with (go_at_call 110; refine (leftI_any _ _ _ ⟨by decide, by decide⟩ (bits_U _ _ _)).mono ?_; rintro e w' ⟨rfl, rfl⟩)
  (try simp only [Exit.inBlock, Exit.then])
  refine bodyPost_ret (results_tmp4 rfl _ _ _) rfl ?_
  refine ⟨ret4 ?_ ?_ ?_ ?_, rfl⟩ <;> simp only [m2a, m2b, m2c, m2d, m1a, m1b, m1c, m1d, sh.xor, wr, IntKind.wrap_u32, Int.emod_add_emod]

theorem isWord_any (n : Int) (w : World) : Calls Tryd.prog 96 #[.int .i64 n] w fun e w' => e = .returned (.bool (decide (0 ≤ n ∧ n ≤ 4294967295))) ∧ w' = w := by
  by_cases h0 : 0 ≤ n
  · by_cases h1 : n ≤ 4294967295
    · have e : decide (0 ≤ n ∧ n ≤ 4294967295) = true := by simp [h0, h1]
      rw [e]
      go_enter Tryd.func96, Tryd.ntmps96
      go_wp2
      go_ret
      exact ⟨rfl, rfl⟩
    · have e : decide (0 ≤ n ∧ n ≤ 4294967295) = false := by simp [h1]
      rw [e]
      go_enter Tryd.func96, Tryd.ntmps96
      go_wp2
      go_ret
      exact ⟨rfl, rfl⟩
  · have e : decide (0 ≤ n ∧ n ≤ 4294967295) = false := by simp [h0]
    rw [e]
    go_enter Tryd.func96, Tryd.ntmps96
    go_wp2
    go_ret
    exact ⟨rfl, rfl⟩
end Go.Proofs.YtneahcoakbbdaaaDoor.cc
