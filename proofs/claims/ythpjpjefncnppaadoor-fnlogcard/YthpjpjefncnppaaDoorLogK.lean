/-
  The model's l04Key, l05Record, l05Records: what a plain condition tells; no old block turns. No condition.
-/
import Derived.Test.YthpjpjefncnppaaDoorLogC
import Derived.Test.YthpjpjefncnppaaDoorLogS0
namespace Go.Proofs.YthpjpjefncnppaaDoor.lm
open Go.ChangeShapes Go.WideShapes Go.ChangeAt Go.RowKit
open Go.Proofs.YthpjpjefncnppaaDoor.wi (heap_lt calls_w wp_w)
open Go.Proofs.YthpjpjefncnppaaDoor.lg Go.Proofs.YthpjpjefncnppaaDoor.ss
set_option linter.unusedVariables false

theorem keyM_yes (key : ByteArray) (w : World) (h : KeyL key) : Calls Tryd.prog 47 #[.string key] w fun e w' => e = .returned (.bool true) ∧ w' = w := by
  obtain ⟨h0, h1⟩ := h
  have d : decide ((key.size : Int) ≤ 64) = true := decide_eq_true (by omega)
  go_enter Tryd.func47, Tryd.ntmps47
  go_wp2
  go_ret
  exact ⟨rfl, rfl⟩
theorem keyM_no (key : ByteArray) (w : World) (hk : key.size ≤ maxLen) (h : ¬ KeyL key) : Calls Tryd.prog 47 #[.string key] w fun e w' => e = .returned (.bool false) ∧ w' = w := by
  unfold maxLen at hk
  unfold KeyL at h
  by_cases h0 : 1 ≤ key.size
  · have d : decide ((key.size : Int) ≤ 64) = false := decide_eq_false (by omega)
    go_enter Tryd.func47, Tryd.ntmps47
    go_wp2
    go_ret
    exact ⟨rfl, rfl⟩
  · go_enter Tryd.func47, Tryd.ntmps47
    go_wp2
    go_ret
    exact ⟨rfl, rfl⟩
theorem recM_any (r : ByteArray) (w : World) (hr : r.size ≤ maxLen) : Calls Tryd.prog 49 #[.string r] w fun e w' => e = .returned (.bool (decide (r.size ≤ 200))) ∧ w' = w := by
  unfold maxLen at hr
  have d : decide ((r.size : Int) ≤ 200) = decide (r.size ≤ 200) := decide_eq_decide.2 (by omega)
  go_enter Tryd.func49, Tryd.ntmps49
  go_wp2
  go_ret
  exact ⟨by rw [← d]; rfl, rfl⟩

theorem at_getD {l : List ByteArray} {k : Nat} (h : k < l.length) : l.getD k ⟨#[]⟩ ∈ l := by
  rw [getD_at h]; exact List.getElem_mem h
set_option maxHeartbeats 8000000 in
theorem recsM_yes (key : ByteArray) (v : Value) (l : List ByteArray) (w : World) (h : RecsL key l) (hv : SliceIs w v l) :
    Calls Tryd.prog 44 #[.string key, v] w fun r w' => r = .returned (.bool true) ∧ Below w.heap.size w w' := by
  have HB : Hid (Below w.heap.size w w) := Below.refl _ _
  obtain ⟨h1, h2, h3⟩ := h
  have d60 : decide ((l.length : Int) ≤ 60) = true := decide_eq_true (by omega)
  have HK : Hid (∀ u, Calls Tryd.prog 47 #[.string key] u fun e w' => e = .returned (.bool true) ∧ w' = u) := fun u => keyM_yes key u h2
  clear h2
  rcases hv with ⟨p, cap, rfl, rfl⟩ | ⟨b, off, cap, hb, rfl, hR⟩
  · go_enter Tryd.func44, Tryd.ntmps44
    go_wp2
    refine wp_loop_rounds 1 ?_
    rw [rounds_succ]
    go_wp2_with (go_at_call 47; (with_reducible refine (HK.out _).mono ?_); rintro r w' ⟨rfl, hw'⟩; obtain rfl := hw'.symm)
    go_ret
    exact ⟨rfl, HB.out⟩
  · have HR : Hid (Row w b off l) := hR
    have HZ : Hid (∀ k, k < l.length → (l.getD k ⟨#[]⟩).size ≤ 200) := fun k hk => h1 _ (at_getD hk)
    clear hR h1
    obtain ⟨n, hn⟩ : ∃ n, n = l.length := ⟨_, rfl⟩
    have HRn : Hid (∀ k, k < n → w.cell? ⟨b, off + k, none⟩ = some (.string (l.getD k ⟨#[]⟩))) := fun k hk => HR.out k (by omega)
    rw [← hn] at h3 d60 HZ ⊢
    clear hn HR
    go_enter Tryd.func44, Tryd.ntmps44
    go_wp2
    go_loopw [5] (fun i u => ∃ k : Nat, k ≤ n ∧ i = .int .i64 k ∧ ∃ m, u = w.drewN m) (fun i _ => n - (intOf i).toNat)
    case atStart => exact ⟨0, Nat.zero_le _, rfl, 0, rfl⟩
    case round =>
      obtain ⟨k, hk, rfl, m, rfl⟩ := hrel
      have HU : Hid (Below w.heap.size w (w.drewN m)) := below_drewN HB.out m
      by_cases hlt : k < n
      · have c1 : (w.drewN m).cell? ⟨b, off + k, none⟩ = some (.string (l.getD k ⟨#[]⟩)) := HRn.out k hlt
        have hx200 := HZ.out k hlt
        obtain ⟨x, hx⟩ : ∃ x, x = l.getD k ⟨#[]⟩ := ⟨_, rfl⟩
        rw [← hx] at c1 hx200
        have HC : Hid (∀ u, Calls Tryd.prog 49 #[.string x] u fun e w' => e = .returned (.bool true) ∧ w' = u) := fun u => by
          have := recM_any x u (by unfold maxLen; omega)
          rwa [decide_eq_true hx200] at this
        clear hx HZ hx200
        go_wp2_with (go_at_call 49; (with_reducible refine (HC.out _).mono ?_); rintro r w' ⟨rfl, hw'⟩; obtain rfl := hw'.symm)
        exact ⟨⟨k + 1, by omega, by go_num, _, rfl⟩, by simp [intOf]; omega⟩
      · obtain rfl : k = n := by omega
        go_wp2_with (go_at_call 47; (with_reducible refine (HK.out _).mono ?_); rintro r w' ⟨rfl, hw'⟩; obtain rfl := hw'.symm)
        go_ret
        exact ⟨rfl, HU.out⟩
set_option maxHeartbeats 8000000 in
theorem recsM_no (key : ByteArray) (v : Value) (l : List ByteArray) (w : World) (hk : key.size ≤ maxLen) (hl : l.length ≤ maxLen) (hz : ∀ r ∈ l, r.size ≤ maxLen) (h : ¬ RecsL key l) (hv : SliceIs w v l) :
    Calls Tryd.prog 44 #[.string key, v] w fun r w' => r = .returned (.bool false) ∧ Below w.heap.size w w' := by
  have HB : Hid (Below w.heap.size w w) := Below.refl _ _
  have HK : Hid (∀ u, ∃ d : Bool, (d = true → KeyL key) ∧ Calls Tryd.prog 47 #[.string key] u fun e w' => e = .returned (.bool d) ∧ w' = u) := fun u => by
    by_cases h2 : KeyL key
    · exact ⟨true, fun _ => h2, keyM_yes key u h2⟩
    · exact ⟨false, fun x => by simp at x, keyM_no key u hk h2⟩
  unfold maxLen at hl
  rcases hv with ⟨p, cap, rfl, rfl⟩ | ⟨b, off, cap, hb, rfl, hR⟩
  · have h2 : ¬ KeyL key := fun h2 => h ⟨fun r hr => by simp at hr, h2, by simp⟩
    have HK2 : Hid (∀ u, Calls Tryd.prog 47 #[.string key] u fun e w' => e = .returned (.bool false) ∧ w' = u) := fun u => keyM_no key u hk h2
    clear HK h h2 hz
    go_enter Tryd.func44, Tryd.ntmps44
    go_wp2
    refine wp_loop_rounds 1 ?_
    rw [rounds_succ]
    go_wp2_with (go_at_call 47; (with_reducible refine (HK2.out _).mono ?_); rintro r w' ⟨rfl, hw'⟩; obtain rfl := hw'.symm)
    go_ret
    exact ⟨rfl, HB.out⟩
  · have HR : Hid (Row w b off l) := hR
    have HZ : Hid (∀ k, k < l.length → (l.getD k ⟨#[]⟩).size ≤ maxLen) := fun k hk => hz _ (at_getD hk)
    have HE : Hid (∀ k, (∀ j, j < k → (l.getD j ⟨#[]⟩).size ≤ 200) → k = l.length → KeyL key → l.length ≤ 60 → False) := fun k h1 hk h2 h3 => h ⟨fun r hr => by
      obtain ⟨j, hj, rfl⟩ := List.mem_iff_getElem.1 hr
      have := h1 j (by omega)
      rwa [getD_at hj] at this, h2, h3⟩
    clear hR hz h
    obtain ⟨n, hn⟩ : ∃ n, n = l.length := ⟨_, rfl⟩
    have HRn : Hid (∀ k, k < n → w.cell? ⟨b, off + k, none⟩ = some (.string (l.getD k ⟨#[]⟩))) := fun k hk => HR.out k (by omega)
    rw [← hn] at hl HZ HE ⊢
    clear hn HR
    go_enter Tryd.func44, Tryd.ntmps44
    go_wp2
    go_loopw [5] (fun i u => ∃ k : Nat, k ≤ n ∧ i = .int .i64 k ∧ Hid (∀ j, j < k → (l.getD j ⟨#[]⟩).size ≤ 200) ∧ ∃ m, u = w.drewN m) (fun i _ => n - (intOf i).toNat)
    case atStart => exact ⟨0, Nat.zero_le _, rfl, fun j hj => by omega, 0, rfl⟩
    case round =>
      obtain ⟨k, hk2, rfl, HA, m, rfl⟩ := hrel
      have HU : Hid (Below w.heap.size w (w.drewN m)) := below_drewN HB.out m
      by_cases hlt : k < n
      · have c1 : (w.drewN m).cell? ⟨b, off + k, none⟩ = some (.string (l.getD k ⟨#[]⟩)) := HRn.out k hlt
        have hxm := HZ.out k hlt
        obtain ⟨x, hx⟩ : ∃ x, x = l.getD k ⟨#[]⟩ := ⟨_, rfl⟩
        rw [← hx] at c1 hxm
        by_cases hx200 : x.size ≤ 200
        · have HC : Hid (∀ u, Calls Tryd.prog 49 #[.string x] u fun e w' => e = .returned (.bool true) ∧ w' = u) := fun u => by
            have := recM_any x u hxm
            rwa [decide_eq_true hx200] at this
          have HA' : Hid (∀ j, j < k + 1 → (l.getD j ⟨#[]⟩).size ≤ 200) := fun j hj => by
            by_cases e : j = k
            · rw [e, ← hx]; exact hx200
            · exact HA.out j (by omega)
          clear hx HZ hx200 hxm HA HK HE
          go_wp2_with (go_at_call 49; (with_reducible refine (HC.out _).mono ?_); rintro r w' ⟨rfl, hw'⟩; obtain rfl := hw'.symm)
          exact ⟨⟨k + 1, by omega, by go_num, HA', _, rfl⟩, by simp [intOf]; omega⟩
        · have HC : Hid (∀ u, Calls Tryd.prog 49 #[.string x] u fun e w' => e = .returned (.bool false) ∧ w' = u) := fun u => by
            have := recM_any x u hxm
            rwa [decide_eq_false hx200] at this
          clear hx HZ hx200 hxm HA HK HE
          go_wp2_with (go_at_call 49; (with_reducible refine (HC.out _).mono ?_); rintro r w' ⟨rfl, hw'⟩; obtain rfl := hw'.symm)
          go_ret
          exact ⟨rfl, HU.out⟩
      · obtain rfl : k = n := by omega
        by_cases h60 : k ≤ 60
        · have h2 : ¬ KeyL key := fun h2 => HE.out k HA.out rfl h2 h60
          have HK2 : Hid (∀ u, Calls Tryd.prog 47 #[.string key] u fun e w' => e = .returned (.bool false) ∧ w' = u) := fun u => keyM_no key u hk h2
          clear HK HE HA HZ h2
          go_wp2_with (go_at_call 47; (with_reducible refine (HK2.out _).mono ?_); rintro r w' ⟨rfl, hw'⟩; obtain rfl := hw'.symm)
          go_ret
          exact ⟨rfl, HU.out⟩
        · have d60 : decide ((k : Int) ≤ 60) = false := decide_eq_false (by omega)
          clear HE HA HZ
          go_wp2_with (go_at_call 47; (obtain ⟨d, _, hd⟩ := HK.out (w.drewN m)); refine hd.mono ?_; rintro r w' ⟨rfl, hw'⟩; obtain rfl := hw'.symm; clear hd; cases d)
          all_goals
            go_ret
            exact ⟨rfl, HU.out⟩
end Go.Proofs.YthpjpjefncnppaaDoor.lm
