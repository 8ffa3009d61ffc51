/-
  The model's l05Chain and LogText by plain functions; no old block turns. No condition.
-/
import Derived.Test.YtcfekhahibklfaaDoorMg14
import Derived.Test.YtcfekhahibklfaaDoorMg7
namespace Go.Proofs.YtcfekhahibklfaaDoor.lm
open Go.ChangeShapes Go.WideShapes Go.ChangeAt Go.RowKit
open Go.Proofs.YtcfekhahibklfaaDoor.wi (heap_lt calls_w wp_w)
open Go.Proofs.YtcfekhahibklfaaDoor.lg Go.Proofs.YtcfekhahibklfaaDoor.ss
open Go.Proofs.YtcfekhahibklfaaDoor.sh (macB macB_size macM_any)
set_option linter.unusedVariables false

set_option maxHeartbeats 8000000 in
theorem chainM_row (key : ByteArray) (b off cap : Nat) (l : List ByteArray) (n : Nat) (w : World) (hb : b < w.heap.size) (hk : key.size ≤ maxLen) (hz : ∀ r ∈ l, r.size ≤ maxLen) (hl : l.length ≤ maxLen) (hn : n ≤ l.length) (hR : Row w b off l) :
    Calls Tryd.prog 57 #[.string key, .slice (some ⟨b, off, none⟩) l.length cap, .int .i64 (n : Int)] w fun r w' => r = .returned (.string (chain macB key (l.take n))) ∧ Below w.heap.size w w' := by
  obtain ⟨c0, hc0⟩ : ∃ c0, c0 = chainS macB key := ⟨_, rfl⟩
  have HS : Hid (∀ u, Calls Tryd.prog 19 #[.string key] u fun r w' => r = .returned (.string c0) ∧ Below u.heap.size u w') := fun u => by rw [hc0]; exact startM_any key u hk
  have HN : Hid (∀ u k, k < l.length → Calls Tryd.prog 17 #[.string key, .string (chain macB key (l.take k)), .string (l.getD k ⟨#[]⟩)] u fun r w' => r = .returned (.string (chain macB key (l.take (k + 1)))) ∧ Below u.heap.size u w') := fun u k hk2 => by
    rw [chain_step hk2, ← getD_at hk2]
    exact nextM_any key _ _ u hk (Nat.le_trans (chain_le key _) (by decide)) (hz _ (at_getD hk2))
  have HR : Hid (∀ u, Below w.heap.size w u → ∀ k, k < l.length → u.cell? ⟨b, off + k, none⟩ = some (.string (l.getD k ⟨#[]⟩))) := fun u hu => hR.below hu hb
  have HC0 : Hid (c0 = chain macB key (l.take 0)) := hc0
  unfold maxLen at hl
  clear hR hz hk hc0
  go_enter Tryd.func57, Tryd.ntmps57
  go_wp2_with (go_at_call 19; (refine (HS.out _).mono ?_); rintro r w1 ⟨rfl, hb1⟩)
  have HB1 : Hid (Below w.heap.size w w1) := hb1
  go_loopw [7, 8] (fun c i u => ∃ k : Nat, k ≤ n ∧ i = .int .i64 k ∧ c = .string (chain macB key (l.take k)) ∧ Hid (Below w.heap.size w u)) (fun _ i _ => n - (intOf i).toNat)
  case atStart => exact ⟨0, Nat.zero_le _, rfl, by rw [HC0.out], HB1⟩
  case round =>
    clear HB1 hb1
    obtain ⟨k, hk, rfl, rfl, HB⟩ := hrel
    by_cases hlt : k < n
    · have c1 := HR.out wr HB.out k (by omega)
      have HN' := fun u => HN.out u k (by omega)
      clear HN HR HS
      go_wp2_with (go_at_call 17; (refine (HN' _).mono ?_); rintro r w2 ⟨rfl, hb2⟩)
      exact ⟨⟨k + 1, by omega, by go_num, rfl, HB.out.trans (hb2.mono HB.out.size)⟩, by simp [intOf]; omega⟩
    · obtain rfl : k = n := by omega
      clear HN HR HS
      go_wp2
      go_ret
      exact ⟨rfl, HB.out⟩
set_option maxHeartbeats 8000000 in
theorem chainM_none (key : ByteArray) (p : Option Addr) (cap : Nat) (w : World) (hk : key.size ≤ maxLen) :
    Calls Tryd.prog 57 #[.string key, .slice p 0 cap, .int .i64 0] w fun r w' => r = .returned (.string (chain macB key [])) ∧ Below w.heap.size w w' := by
  have HS : Hid (∀ u, Calls Tryd.prog 19 #[.string key] u fun r w' => r = .returned (.string (chain macB key [])) ∧ Below u.heap.size u w') := fun u => startM_any key u hk
  clear hk
  go_enter Tryd.func57, Tryd.ntmps57
  go_wp2_with (go_at_call 19; (refine (HS.out _).mono ?_); rintro r w1 ⟨rfl, hb1⟩)
  refine wp_loop_rounds 1 ?_
  rw [rounds_succ]
  go_wp2
  go_ret
  exact ⟨rfl, hb1⟩
/-- the chain of the first n records -/
theorem chainM_any (key : ByteArray) (v : Value) (l : List ByteArray) (n : Nat) (w : World) (hk : key.size ≤ maxLen) (hz : ∀ r ∈ l, r.size ≤ maxLen) (hl : l.length ≤ maxLen) (hn : n ≤ l.length) (hv : SliceIs w v l) :
    Calls Tryd.prog 57 #[.string key, v, .int .i64 (n : Int)] w fun r w' => r = .returned (.string (chain macB key (l.take n))) ∧ Below w.heap.size w w' := by
  rcases hv with ⟨p, cap, rfl, rfl⟩ | ⟨b, off, cap, hb, rfl, hR⟩
  · obtain rfl : n = 0 := by simpa using hn
    exact chainM_none key p cap w hk
  · exact chainM_row key b off cap l n w hb hk hz hl hn hR

theorem numB_small {n : Nat} (h : n ≤ 200) : (pn.numB (n : Int)).size ≤ 10 := pt.numB_size_le (by unfold pn.i64P; omega)
theorem recB_le (c r : ByteArray) (hr : r.size ≤ 200) : (recB c r).size ≤ 218 := by
  have h1 := numB_small hr
  unfold recB
  rw [ByteArray.size_append, ByteArray.size_append, ByteArray.size_extract]
  omega
theorem logF_le (key : ByteArray) : ∀ (l : List ByteArray) (c : ByteArray), (∀ r ∈ l, r.size ≤ 200) → (logF macB key c l).size ≤ 218 * l.length
  | [], _, _ => Nat.zero_le _
  | r :: l, c, h => by
    show (recB _ r ++ logF macB key _ l).size ≤ _
    have h1 := recB_le (chainN macB key c r) r (h r (List.mem_cons_self ..))
    have h2 := logF_le key l (chainN macB key c r) fun x hx => h x (List.mem_cons_of_mem _ hx)
    rw [ByteArray.size_append, List.length_cons]
    omega
theorem logB_le {key : ByteArray} {l : List ByteArray} (h : RecsL key l) : (logB macB key l).size ≤ 13080 := by
  have h1 := logF_le key l (chainS macB key) h.1
  have h2 := h.2.2
  unfold logB
  omega

set_option maxHeartbeats 8000000 in
theorem textM_row (key : ByteArray) (b off cap : Nat) (l : List ByteArray) (w : World) (hb : b < w.heap.size) (h : RecsL key l) (hR : Row w b off l) :
    Calls Tryd.prog 12 #[.string key, .slice (some ⟨b, off, none⟩) l.length cap] w fun r w' => r = .returned (.string (logT macB key l)) ∧ Below w.heap.size w w' := by
  have hk : key.size ≤ 64 := h.2.1.2
  have hl : l.length ≤ 60 := h.2.2
  have HQ : Hid (∀ u, Below w.heap.size w u → Calls Tryd.prog 44 #[.string key, .slice (some ⟨b, off, none⟩) l.length cap] u fun r w' => r = .returned (.bool true) ∧ Below u.heap.size u w') := fun u hu => recsM_yes key _ l u h (.inr ⟨b, off, cap, Nat.lt_of_lt_of_le hb hu.size, rfl, hR.below hu hb⟩)
  obtain ⟨c0, hc0⟩ : ∃ c0, c0 = chainS macB key := ⟨_, rfl⟩
  have HS : Hid (∀ u, Calls Tryd.prog 19 #[.string key] u fun r w' => r = .returned (.string c0) ∧ Below u.heap.size u w') := fun u => by rw [hc0]; exact startM_any key u (Nat.le_trans hk (by decide))
  have HC0 : Hid (c0 = chain macB key (l.take 0)) := hc0
  have HL0 : Hid ((⟨#[]⟩ : ByteArray) = logB macB key (l.take 0)) := rfl
  clear hc0
  have HN : Hid (∀ u k, k < l.length → Calls Tryd.prog 17 #[.string key, .string (chain macB key (l.take k)), .string (l.getD k ⟨#[]⟩)] u fun r w' => r = .returned (.string (chain macB key (l.take (k + 1)))) ∧ Below u.heap.size u w') := fun u k hk2 => by
    rw [chain_step hk2, ← getD_at hk2]
    exact nextM_any key _ _ u (Nat.le_trans hk (by decide)) (Nat.le_trans (chain_le key _) (by decide)) (Nat.le_trans (h.1 _ (at_getD hk2)) (by decide))
  have HP : Hid (∀ u k, k < l.length → Calls Tryd.prog 45 #[.string (l.getD k ⟨#[]⟩)] u fun r w' => r = .returned (.string (pn.numB ((l.getD k ⟨#[]⟩).size : Int) ++ l.getD k ⟨#[]⟩)) ∧ Below u.heap.size u w') := fun u k hk2 => by
    have h200 := h.1 _ (at_getD hk2)
    have := pt.spec_any (l.getD k ⟨#[]⟩) u (Nat.le_trans h200 (by decide))
    rwa [pt.putB_yes (by omega)] at this
  have HR : Hid (∀ u, Below w.heap.size w u → ∀ k, k < l.length → u.cell? ⟨b, off + k, none⟩ = some (.string (l.getD k ⟨#[]⟩))) := fun u hu => hR.below hu hb
  have HZ : Hid (∀ k, k ≤ l.length → (logB macB key (l.take k)).size ≤ 13080) := fun k _ => logB_le (h.take k)
  have HC : Hid (∀ k, (chain macB key (l.take k)).size = 32) := fun k => chain_size macB_32 (h.take k)
  have HW : Hid (∀ k, k < l.length → (pn.numB ((l.getD k ⟨#[]⟩).size : Int)).size ≤ 10 ∧ (l.getD k ⟨#[]⟩).size ≤ 200) := fun k hk2 => ⟨numB_small (h.1 _ (at_getD hk2)), h.1 _ (at_getD hk2)⟩
  have HG : Hid (∀ k, k < l.length → logB macB key (l.take k) ++ (pn.numB ((l.getD k ⟨#[]⟩).size : Int) ++ l.getD k ⟨#[]⟩) ++ (chain macB key (l.take (k + 1))).extract 0 8 = logB macB key (l.take (k + 1))) := fun k hk2 => by
    rw [logB_step hk2, getD_at hk2]
    unfold recB
    rw [ByteArray.append_assoc]
  have HT1 : Hid ((logB macB key l).size ≤ 8000 → logT macB key l = logB macB key l) := fun x => logT_yes h x
  have HT2 : Hid (8000 < (logB macB key l).size → logT macB key l = ⟨#[]⟩) := fun x => logT_long x
  have HE : Hid (l.take l.length = l) := List.take_length
  have d1 : decide (8000 < (key.size : Int)) = false := decide_eq_false (by omega)
  have d2 : decide (400 < (l.length : Int)) = false := decide_eq_false (by omega)
  clear hR h
  obtain ⟨n, hn⟩ : ∃ n, n = l.length := ⟨_, rfl⟩
  rw [← hn] at hl HQ HN HP HR HZ HW HG HE d2 ⊢
  clear hn
  go_enter Tryd.func12, Tryd.ntmps12
  go_wp2_with (first | (go_at_call 44; (refine (HQ.out _ (Below.refl _ _)).mono ?_); rintro r w1 ⟨rfl, hb1⟩) | (go_at_call 19; (refine (HS.out _).mono ?_); rintro r w2 ⟨rfl, hb2⟩))
  have HB2 : Hid (Below w.heap.size w w2) := hb1.trans (hb2.mono hb1.size)
  clear hb1 hb2
  go_loopw [5, 6, 7] (fun t c i u => ∃ k : Nat, k ≤ n ∧ i = .int .i64 k ∧ c = .string (chain macB key (l.take k)) ∧ t = .string (logB macB key (l.take k)) ∧ Hid (Below w.heap.size w u)) (fun _ _ i _ => n - (intOf i).toNat)
  case atStart => exact ⟨0, Nat.zero_le _, rfl, by rw [HC0.out], by rw [← HL0.out], HB2⟩
  case round =>
    clear HB2 HQ HS
    obtain ⟨k, hk', rfl, rfl, rfl, HB⟩ := hrel
    by_cases hlt : k < n
    · have c1 := HR.out wr HB.out k hlt
      have HN' := fun u => HN.out u k hlt
      have HP' := fun u => HP.out u k hlt
      obtain ⟨hw1, hw2⟩ := HW.out k hlt
      have hz := HZ.out k hk'
      have hc32 := HC.out (k + 1)
      have HG' := HG.out k hlt
      obtain ⟨x, hx⟩ : ∃ x, x = l.getD k ⟨#[]⟩ := ⟨_, rfl⟩
      obtain ⟨y, hy⟩ : ∃ y, y = logB macB key (l.take k) := ⟨_, rfl⟩
      obtain ⟨z, hz2⟩ : ∃ z, z = chain macB key (l.take (k + 1)) := ⟨_, rfl⟩
      obtain ⟨q, hq⟩ : ∃ q, q = pn.numB (x.size : Int) := ⟨_, rfl⟩
      rw [← hx] at c1 HN' HP' hw1 hw2 HG'
      rw [← hy] at hz HG' ⊢
      rw [← hz2] at HN' hc32 HG'
      rw [← hq] at HP' hw1 HG'
      have HR' : Hid (∀ u, Below w.heap.size w u → u.cell? ⟨b, off + k, none⟩ = some (.string x)) := fun u hu => by rw [hx]; exact HR.out u hu k hlt
      have HGG : Hid (y ++ (q ++ x) ++ z.extract 0 8 = logB macB key (l.take (k + 1))) := HG'
      have HZ2 : Hid (z = chain macB key (l.take (k + 1))) := hz2
      clear HN HR HP HZ HC HG HW HG' hx hy hq hz2
      go_wp2_with (go_at_call 17; (refine (HN' _).mono ?_); rintro r w3 ⟨rfl, hb3⟩)
      have HB3 : Hid (Below w.heap.size w w3) := HB.out.trans (hb3.mono HB.out.size)
      have c3 := HR'.out w3 HB3.out
      clear hb3 HB HN' HR' c1
      go_region_with (go_at_call 45; (refine (HP' _).mono ?_); rintro r w4 ⟨rfl, hb4⟩)
      have HB4 : Hid (Below w.heap.size w w4) := HB3.out.drew.trans (hb4.mono HB3.out.drew.size)
      clear hb4 HB3 c3 HP'
      go_wp2
      refine ⟨⟨k + 1, by omega, by go_num, by rw [HZ2.out], ?_, HB4⟩, by simp [intOf]; omega⟩
      rw [← HGG.out]
    · obtain rfl : k = n := by omega
      rw [HE.out]
      obtain ⟨y, hy⟩ : ∃ y, y = logB macB key l := ⟨_, rfl⟩
      have hz := HZ.out k (Nat.le_refl _)
      rw [HE.out] at hz
      rw [← hy] at hz HT1 HT2 ⊢
      clear HN HR HP HZ HC HG HW hy
      by_cases h8 : 8000 < y.size
      · have HV := HT2.out h8
        have d3 : decide (8000 < (y.size : Int)) = true := decide_eq_true (by omega)
        go_wp2
        go_ret
        exact ⟨by rw [HV]; rfl, HB.out⟩
      · have HV := HT1.out (by omega)
        have d3 : decide (8000 < (y.size : Int)) = false := decide_eq_false (by omega)
        go_wp2
        go_ret
        exact ⟨by rw [HV]; rfl, HB.out⟩

set_option maxHeartbeats 8000000 in
theorem textM_none (key : ByteArray) (p : Option Addr) (cap : Nat) (w : World) (h : RecsL key []) :
    Calls Tryd.prog 12 #[.string key, .slice p 0 cap] w fun r w' => r = .returned (.string ⟨#[]⟩) ∧ Below w.heap.size w w' := by
  have hk : key.size ≤ 64 := h.2.1.2
  have HQ : Hid (∀ u, Calls Tryd.prog 44 #[.string key, .slice p 0 cap] u fun r w' => r = .returned (.bool true) ∧ Below u.heap.size u w') := fun u => recsM_yes key _ [] u h (.inl ⟨p, cap, rfl, rfl⟩)
  have HS : Hid (∀ u, Calls Tryd.prog 19 #[.string key] u fun r w' => r = .returned (.string (chainS macB key)) ∧ Below u.heap.size u w') := fun u => startM_any key u (Nat.le_trans hk (by decide))
  have d1 : decide (8000 < (key.size : Int)) = false := decide_eq_false (by omega)
  clear h
  go_enter Tryd.func12, Tryd.ntmps12
  go_wp2_with (first | (go_at_call 44; (refine (HQ.out _).mono ?_); rintro r w1 ⟨rfl, hb1⟩) | (go_at_call 19; (refine (HS.out _).mono ?_); rintro r w2 ⟨rfl, hb2⟩))
  have HB2 : Hid (Below w.heap.size w w2) := hb1.trans (hb2.mono hb1.size)
  clear hb1 hb2 HQ HS
  refine wp_loop_rounds 1 ?_
  rw [rounds_succ]
  go_wp2
  go_ret
  exact ⟨rfl, HB2.out⟩
set_option maxHeartbeats 8000000 in
theorem textM_any (key : ByteArray) (v : Value) (l : List ByteArray) (w : World) (hk : key.size ≤ maxLen) (hl : l.length ≤ maxLen) (hz : ∀ r ∈ l, r.size ≤ maxLen) (hv : SliceIs w v l) :
    Calls Tryd.prog 12 #[.string key, v] w fun r w' => r = .returned (.string (logT macB key l)) ∧ Below w.heap.size w w' := by
  by_cases h : RecsL key l
  · rcases hv with ⟨p, cap, rfl, rfl⟩ | ⟨b, off, cap, hb, rfl, hR⟩
    · rw [logT_nil]; exact textM_none key p cap w h
    · exact textM_row key b off cap l w hb h hR
  · have HQ : Hid (∀ u, Below w.heap.size w u → Calls Tryd.prog 44 #[.string key, v] u fun r w' => r = .returned (.bool false) ∧ Below u.heap.size u w') := fun u hu => recsM_no key v l u hk hl hz h (hv.up hu)
    rw [logT_no h]
    obtain ⟨p, cap, rfl⟩ := hv.shape
    clear hv hz h
    unfold maxLen at hk hl
    obtain ⟨n, hn⟩ : ∃ n, n = l.length := ⟨_, rfl⟩
    rw [← hn] at hl HQ ⊢
    clear hn
    by_cases h1 : 8000 < key.size
    · have d1 : decide (8000 < (key.size : Int)) = true := decide_eq_true (by omega)
      go_enter Tryd.func12, Tryd.ntmps12
      go_wp2
      go_ret
      exact ⟨rfl, Below.refl _ _⟩
    · have d1 : decide (8000 < (key.size : Int)) = false := decide_eq_false (by omega)
      by_cases h2 : 400 < n
      · have d2 : decide (400 < (n : Int)) = true := decide_eq_true (by omega)
        go_enter Tryd.func12, Tryd.ntmps12
        go_wp2
        go_ret
        exact ⟨rfl, Below.refl _ _⟩
      · have d2 : decide (400 < (n : Int)) = false := decide_eq_false (by omega)
        go_enter Tryd.func12, Tryd.ntmps12
        go_wp2_with (go_at_call 44; (refine (HQ.out _ (Below.refl _ _)).mono ?_); rintro r w1 ⟨rfl, hb1⟩)
        go_ret
        exact ⟨rfl, hb1⟩
end Go.Proofs.YtcfekhahibklfaaDoor.lm
