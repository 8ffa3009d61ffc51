/-
  The program's logRight at every slice of texts: what a plain condition tells; nothing turns. No condition.
-/
import Derived.Test.YtjnlffdopbfelabDoorLgI0
namespace Go.Proofs.YtjnlffdopbfelabDoor.li
open Go.ChangeShapes Go.WideShapes Go.ChangeAt Go.RowKit
open Go.Proofs.YtjnlffdopbfelabDoor.wi (heap_lt calls_w wp_w)
open Go.Proofs.YtjnlffdopbfelabDoor.lg Go.Proofs.YtjnlffdopbfelabDoor.ss
set_option linter.unusedVariables false

/-- records that may be a log's -/
def RecsR (l : List ByteArray) : Prop := (∀ r ∈ l, r.size ≤ 200) ∧ l.length ≤ 60
theorem at_getDI {l : List ByteArray} {k : Nat} (h : k < l.length) : l.getD k ⟨#[]⟩ ∈ l := by
  rw [getD_at h]; exact List.getElem_mem h
set_option maxHeartbeats 4000000 in
theorem logI_yes (v : Value) (l : List ByteArray) (w : World) (h : RecsR l) (hv : SliceIs w v l) :
    Calls Tryd.prog 16 #[v] w fun r w' => r = .returned (.bool true) ∧ w' = w := by
  obtain ⟨h1, h3⟩ := h
  rcases hv with ⟨p, cap, rfl, rfl⟩ | ⟨b, off, cap, hb, rfl, hR⟩
  · go_enter Tryd.func16, Tryd.ntmps16
    go_wp2
    refine wp_loop_rounds 1 ?_
    rw [rounds_succ]
    go_wp2
    go_ret
    exact ⟨rfl, rfl⟩
  · have HR : Hid (Row w b off l) := hR
    have HZ : Hid (∀ k, k < l.length → (l.getD k ⟨#[]⟩).size ≤ 200) := fun k hk => h1 _ (at_getDI hk)
    clear hR h1
    obtain ⟨n, hn⟩ : ∃ n, n = l.length := ⟨_, rfl⟩
    have HRn : Hid (∀ k, k < n → w.cell? ⟨b, off + k, none⟩ = some (.string (l.getD k ⟨#[]⟩))) := fun k hk => HR.out k (by omega)
    rw [← hn] at h3 HZ ⊢
    clear hn HR
    go_enter Tryd.func16, Tryd.ntmps16
    go_wp2
    go_loop [4, 10] (fun _ i => ∃ k : Nat, k ≤ n ∧ i = .int .i64 k) (fun _ i => n - (intOf i).toNat)
    case atStart => exact ⟨0, Nat.zero_le _, rfl⟩
    case round =>
      obtain ⟨k, hk, rfl⟩ := hrel
      by_cases hlt : k < n
      · have c1 : w.cell? ⟨b, off + k, none⟩ = some (.string (l.getD k ⟨#[]⟩)) := HRn.out k hlt
        have hx200 := HZ.out k hlt
        obtain ⟨x, hx⟩ : ∃ x, x = l.getD k ⟨#[]⟩ := ⟨_, rfl⟩
        rw [← hx] at c1 hx200
        have HC : Hid (∀ u, Calls Tryd.prog 25 #[.string x] u fun e w' => e = .returned (.bool true) ∧ w' = u) := fun u => by
          have := recI_any x u (by unfold maxLen; omega)
          rwa [decide_eq_true hx200] at this
        clear hx HZ hx200
        go_wp2_with (go_at_call 25; (with_reducible refine (HC.out _).mono ?_); rintro r w' ⟨rfl, hw'⟩; obtain rfl := hw'.symm)
        exact ⟨⟨k + 1, by omega, by go_num⟩, by simp [intOf]; omega⟩
      · obtain rfl : k = n := by omega
        go_wp2
        go_ret
        exact ⟨rfl, rfl⟩
set_option maxHeartbeats 4000000 in
theorem logI_no (v : Value) (l : List ByteArray) (w : World) (hl : l.length ≤ maxLen) (hz : ∀ r ∈ l, r.size ≤ maxLen) (h : ¬ RecsR l) (hv : SliceIs w v l) :
    Calls Tryd.prog 16 #[v] w fun r w' => r = .returned (.bool false) ∧ w' = w := by
  unfold maxLen at hl
  rcases hv with ⟨p, cap, rfl, rfl⟩ | ⟨b, off, cap, hb, rfl, hR⟩
  · exact absurd ⟨fun r hr => by simp at hr, by simp⟩ h
  · by_cases h60 : l.length ≤ 60
    · have HR : Hid (Row w b off l) := hR
      have HZ : Hid (∀ k, k < l.length → (l.getD k ⟨#[]⟩).size ≤ maxLen) := fun k hk => hz _ (at_getDI hk)
      have HE : Hid (∀ k, (∀ j, j < k → (l.getD j ⟨#[]⟩).size ≤ 200) → k = l.length → False) := fun k h1 hk => h ⟨fun r hr => by
        obtain ⟨j, hj, rfl⟩ := List.mem_iff_getElem.1 hr
        have := h1 j (by omega)
        rwa [getD_at hj] at this, h60⟩
      clear hR hz h
      obtain ⟨n, hn⟩ : ∃ n, n = l.length := ⟨_, rfl⟩
      have HRn : Hid (∀ k, k < n → w.cell? ⟨b, off + k, none⟩ = some (.string (l.getD k ⟨#[]⟩))) := fun k hk => HR.out k (by omega)
      rw [← hn] at hl h60 HZ HE ⊢
      clear hn HR
      go_enter Tryd.func16, Tryd.ntmps16
      go_wp2
      go_loop [4, 10] (fun _ i => ∃ k : Nat, k ≤ n ∧ i = .int .i64 k ∧ Hid (∀ j, j < k → (l.getD j ⟨#[]⟩).size ≤ 200)) (fun _ i => n - (intOf i).toNat)
      case atStart => exact ⟨0, Nat.zero_le _, rfl, fun j hj => by omega⟩
      case round =>
        obtain ⟨k, hk2, rfl, HA⟩ := hrel
        by_cases hlt : k < n
        · have c1 : w.cell? ⟨b, off + k, none⟩ = some (.string (l.getD k ⟨#[]⟩)) := HRn.out k hlt
          have hxm := HZ.out k hlt
          obtain ⟨x, hx⟩ : ∃ x, x = l.getD k ⟨#[]⟩ := ⟨_, rfl⟩
          rw [← hx] at c1 hxm
          by_cases hx200 : x.size ≤ 200
          · have HC : Hid (∀ u, Calls Tryd.prog 25 #[.string x] u fun e w' => e = .returned (.bool true) ∧ w' = u) := fun u => by
              have := recI_any x u hxm
              rwa [decide_eq_true hx200] at this
            have HA' : Hid (∀ j, j < k + 1 → (l.getD j ⟨#[]⟩).size ≤ 200) := fun j hj => by
              by_cases e : j = k
              · rw [e, ← hx]; exact hx200
              · exact HA.out j (by omega)
            clear hx HZ hx200 hxm HA HE
            go_wp2_with (go_at_call 25; (with_reducible refine (HC.out _).mono ?_); rintro r w' ⟨rfl, hw'⟩; obtain rfl := hw'.symm)
            exact ⟨⟨k + 1, by omega, by go_num, HA'⟩, by simp [intOf]; omega⟩
          · have HC : Hid (∀ u, Calls Tryd.prog 25 #[.string x] u fun e w' => e = .returned (.bool false) ∧ w' = u) := fun u => by
              have := recI_any x u hxm
              rwa [decide_eq_false hx200] at this
            clear hx HZ hx200 hxm HA HE
            go_wp2_with (go_at_call 25; (with_reducible refine (HC.out _).mono ?_); rintro r w' ⟨rfl, hw'⟩; obtain rfl := hw'.symm)
            go_ret
            exact ⟨rfl, rfl⟩
        · exact (HE.out k HA.out (by omega)).elim
    · obtain ⟨n, hn⟩ : ∃ n, n = l.length := ⟨_, rfl⟩
      rw [← hn] at hl h60 ⊢
      clear hn hR hz h
      go_enter Tryd.func16, Tryd.ntmps16
      go_wp2
      go_ret
      exact ⟨rfl, rfl⟩
end Go.Proofs.YtjnlffdopbfelabDoor.li
