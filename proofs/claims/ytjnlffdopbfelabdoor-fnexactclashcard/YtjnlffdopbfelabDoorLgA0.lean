/-
  The program's within; slices cut off; no old block turns. Condition: the table of the rounds' numbers lies in its variable.
-/
import Derived.Test.YtjnlffdopbfelabDoorLgCo
import Derived.Test.YtjnlffdopbfelabDoorLgIR
namespace Go.Proofs.YtjnlffdopbfelabDoor.li
open Go.ChangeShapes Go.WideShapes Go.ChangeAt Go.RowKit
open Go.Proofs.YtjnlffdopbfelabDoor.wi (heap_lt calls_w wp_w)
open Go.Proofs.YtjnlffdopbfelabDoor.lg Go.Proofs.YtjnlffdopbfelabDoor.ss
open Go.Proofs.YtjnlffdopbfelabDoor.sh (macB macB_size Tab Tab.up Tab.below Tab.lt)
set_option linter.unusedVariables false

theorem withinI_any (n lo hi : Int) (w : World) : Calls Tryd.prog 17 #[.int .i64 n, .int .i64 lo, .int .i64 hi] w fun e w' => e = .returned (.bool (decide (lo ≤ n ∧ n ≤ hi))) ∧ w' = w := by
  by_cases h1 : lo ≤ n
  · by_cases h2 : n ≤ hi
    · rw [decide_eq_true ⟨h1, h2⟩]
      go_enter Tryd.func17, Tryd.ntmps17
      go_wp2
      go_ret
      exact ⟨rfl, rfl⟩
    · rw [decide_eq_false (fun h => h2 h.2)]
      go_enter Tryd.func17, Tryd.ntmps17
      go_wp2
      go_ret
      exact ⟨rfl, rfl⟩
  · rw [decide_eq_false (fun h => h1 h.1)]
    go_enter Tryd.func17, Tryd.ntmps17
    go_wp2
    go_ret
    exact ⟨rfl, rfl⟩
theorem slice_take {w : World} {p : Option Addr} {m cap : Nat} {l : List ByteArray} (h : SliceIs w (.slice p m cap) l) {n : Nat} (hn : n ≤ l.length) : SliceIs w (.slice p n n) (l.take n) := by
  rcases h with ⟨p2, c2, rfl, he⟩ | ⟨b, off, c2, hb, he, hR⟩
  · obtain rfl : n = 0 := by simpa using hn
    exact .inl ⟨p, 0, by simp, rfl⟩
  · simp only [Value.slice.injEq] at he
    obtain ⟨rfl, rfl, rfl⟩ := he
    refine .inr ⟨b, off, n, hb, ?_, ?_⟩
    · rw [List.length_take, Nat.min_eq_left hn]
    · intro j hj
      rw [List.length_take, Nat.min_eq_left hn] at hj
      rw [hR j (by omega), getD_at (by omega), getD_at (by rw [List.length_take]; omega), List.getElem_take]
/-- the room behind a slice -/
def Capd (v : Value) : Prop := ∀ p m cap, v = .slice p m cap → m ≤ cap ∧ cap ≤ maxLen
end Go.Proofs.YtjnlffdopbfelabDoor.li
