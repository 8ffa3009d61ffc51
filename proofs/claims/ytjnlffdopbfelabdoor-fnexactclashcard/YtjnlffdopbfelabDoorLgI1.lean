/-
  The program's chainedBy (the maker), cut, firstOf, markOf, logRight: what the plain functions tell; no old block turns. No condition.
-/
import Derived.Test.YtjnlffdopbfelabDoorLgI0
namespace Go.Proofs.YtjnlffdopbfelabDoor.li
open Go.ChangeShapes Go.WideShapes Go.ChangeAt Go.RowKit
open Go.Proofs.YtjnlffdopbfelabDoor.wi (heap_lt calls_w wp_w)
open Go.Proofs.YtjnlffdopbfelabDoor.lg Go.Proofs.YtjnlffdopbfelabDoor.ss
set_option linter.unusedVariables false

/-- a slice of texts in a variable of its own -/
def boxL (v : Value) : Obj := .cells #[v] 22
theorem chainedBy_any (key : ByteArray) (p : Option Addr) (n cap : Nat) (w : World) : Calls Tryd.prog 27 #[.string key, .slice p n cap] w fun e w' =>
    e = .returned (.func (.func 32) #[] #[.pointer (some ⟨w.heap.size, 0, none⟩), .pointer (some ⟨w.heap.size + 1, 0, none⟩)]) ∧ w' = (w.alloc (boxT key)).alloc (boxL (.slice p n cap)) := by
  go_enter Tryd.func27, Tryd.ntmps27
  go_wp2
  go_ret
  exact ⟨rfl, rfl⟩
theorem firstOf_any (p : Option Addr) (len cap n : Nat) (w : World) (hn : n ≤ cap) (hc : cap ≤ maxLen) : Calls Tryd.prog 18 #[.slice p len cap, .int .i64 n] w fun e w' =>
    e = .returned (.slice p n n) ∧ w' = w := by
  unfold maxLen at hc
  go_enter Tryd.func18, Tryd.ntmps18
  go_wp2
  go_ret
  exact ⟨rfl, rfl⟩
end Go.Proofs.YtjnlffdopbfelabDoor.li
