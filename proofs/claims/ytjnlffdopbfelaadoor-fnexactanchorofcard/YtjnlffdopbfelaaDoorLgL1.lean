/-
  The laws that hold the program's ChainStart, ChainNext and LogText against the model's tell true at every argument. Condition: the table of the rounds' numbers lies in its variable.
-/
import Derived.Test.YtjnlffdopbfelaaDoorLgT
import Derived.Test.YtjnlffdopbfelaaDoorLogM2
import Derived.Test.YtjnlffdopbfelaaDoorLogS
namespace Go.Proofs.YtjnlffdopbfelaaDoor.ll
open Go.ChangeShapes Go.WideShapes Go.ChangeAt Go.RowKit
open Go.Proofs.YtjnlffdopbfelaaDoor.lg Go.Proofs.YtjnlffdopbfelaaDoor.ss Go.Proofs.YtjnlffdopbfelaaDoor.li
open Go.Proofs.YtjnlffdopbfelaaDoor.lm (startM_any nextM_any textM_any)
open Go.Proofs.YtjnlffdopbfelaaDoor.sh (macB Tab Tab.up)
set_option linter.unusedVariables false

set_option maxRecDepth 20000 in
set_option maxHeartbeats 8000000 in
theorem startLaw (key : ByteArray) (hk : key.size ≤ maxLen) (w : World) (hT : Tab w) :
    Calls Tryd.prog 3 #[.string key] w fun e w' => e = .returned (.bool true) ∧ Below w.heap.size w w' := by
  have HM : Hid (∀ u, Calls Tryd.prog 9 #[.string key] u fun r w' => r = .returned (.string (chainS macB key)) ∧ Below u.heap.size u w') := fun u => startM_any key u hk
  have HI : Hid (∀ u, Below w.heap.size w u → Calls Tryd.prog 10 #[.string key] u fun r w' => r = .returned (.string (chainS macB key)) ∧ Below u.heap.size u w') := fun u hu => startI_any key u hk (hT.up hu)
  have HB : Hid (Below w.heap.size w w) := Below.refl _ _
  generalize chainS macB key = z at *
  have hz : (z.toList == z.toList) = true := by simp
  unfold maxLen at hk
  clear hT
  by_cases hb : 1048576 < key.size
  · go_enter Tryd.func3, Tryd.ntmps3
    go_wp2
    go_ret
    exact ⟨rfl, HB.out⟩
  · go_enter Tryd.func3, Tryd.ntmps3
    go_wp2_with (first | (go_at_call 9; (refine (HM.out _).mono ?_); rintro e w1 ⟨rfl, hB1⟩) | (go_at_call 10; (refine (HI.out _ hB1).mono ?_); rintro e w2 ⟨rfl, hB2⟩; have hC2 := hB1.trans (hB2.mono hB1.size)))
    go_ret
    exact ⟨rfl, hC2⟩
set_option maxRecDepth 20000 in
set_option maxHeartbeats 8000000 in
theorem nextLaw (key c r : ByteArray) (hk : key.size ≤ maxLen) (hc : c.size ≤ maxLen) (hr : r.size ≤ maxLen) (w : World) (hT : Tab w) :
    Calls Tryd.prog 4 #[.string key, .string c, .string r] w fun e w' => e = .returned (.bool true) ∧ Below w.heap.size w w' := by
  have HM : Hid (∀ u, Calls Tryd.prog 11 #[.string key, .string c, .string r] u fun e w' => e = .returned (.string (chainN macB key c r)) ∧ Below u.heap.size u w') := fun u => nextM_any key c r u hk hc hr
  have HI : Hid (∀ u, Below w.heap.size w u → Calls Tryd.prog 12 #[.string key, .string c, .string r] u fun e w' => e = .returned (.string (chainN macB key c r)) ∧ Below u.heap.size u w') := fun u hu => nextI_any key c r u hk hc hr (hT.up hu)
  have HB : Hid (Below w.heap.size w w) := Below.refl _ _
  generalize chainN macB key c r = z at *
  have hz : (z.toList == z.toList) = true := by simp
  unfold maxLen at hk hc hr
  clear hT
  by_cases h1 : 1048576 < key.size
  · go_enter Tryd.func4, Tryd.ntmps4
    go_wp2
    go_ret
    exact ⟨rfl, HB.out⟩
  · by_cases h2 : 1048576 < c.size
    · go_enter Tryd.func4, Tryd.ntmps4
      go_wp2
      go_ret
      exact ⟨rfl, HB.out⟩
    · by_cases h3 : 1048576 < r.size
      · go_enter Tryd.func4, Tryd.ntmps4
        go_wp2
        go_ret
        exact ⟨rfl, HB.out⟩
      · go_enter Tryd.func4, Tryd.ntmps4
        go_wp2_with (first | (go_at_call 11; (refine (HM.out _).mono ?_); rintro e w1 ⟨rfl, hB1⟩) | (go_at_call 12; (refine (HI.out _ hB1).mono ?_); rintro e w2 ⟨rfl, hB2⟩; have hC2 := hB1.trans (hB2.mono hB1.size)))
        go_ret
        exact ⟨rfl, hC2⟩
theorem szV_big {s : List ByteArray} (h : ¬ szV 1048576 s < 0) : s.length ≤ 1048576 ∧ tot s ≤ 1048576 ∧ 0 ≤ szV 1048576 s ∧ szV 1048576 s ≤ 1048576 := by
  unfold szV at h ⊢
  split at h
  · omega
  · rw [if_neg (by assumption)]
    omega
theorem tot_mem {s : List ByteArray} {r : ByteArray} (h : r ∈ s) : r.size ≤ tot s := by
  induction s with
  | nil => simp at h
  | cons a t ih =>
    have e : tot (a :: t) = a.size + tot t := by simp [tot]
    rw [e]
    rcases List.mem_cons.1 h with rfl | h
    · omega
    · have := ih h; omega
set_option maxRecDepth 20000 in
set_option maxHeartbeats 8000000 in
theorem textLaw (w : World) (key : ByteArray) (hk : key.size ≤ maxLen) (v : Value) (l : List ByteArray) (hl : l.length ≤ maxLen) (hz : ∀ r ∈ l, r.size ≤ maxLen) (hv : SliceIs w v l) (hT : Tab w) :
    Calls Tryd.prog 5 #[.string key, v] w fun e w' => e = .returned (.bool true) ∧ Below w.heap.size w w' := by
  have HB : Hid (Below w.heap.size w w) := Below.refl _ _
  have HZ : Hid (Calls Tryd.prog 13 #[v, .int .i64 1048576] w fun r w' => r = .returned (.int .i64 (szV 1048576 l)) ∧ Below w.heap.size w w') := szTexts_any v l 1048576 w (by omega) (by omega) hl hz hv
  have HM : Hid (∀ u x, SliceIs u x l → Calls Tryd.prog 14 #[.string key, x] u fun r w' => r = .returned (.string (logT macB key l)) ∧ Below u.heap.size u w') := fun u x hx => textM_any key x l u hk hl hz hx
  have HI : Hid (∀ u x, Below w.heap.size w u → SliceIs u x l → Calls Tryd.prog 16 #[.string key, x] u fun r w' => r = .returned (.string (logT macB key l)) ∧ Below u.heap.size u w') := fun u x hu hx => textI_any key x l u hk hl hz (hT.up hu) hx
  have HE : Hid (∀ u x y, SliceIs u x l → SliceIs u y l → Calls Tryd.prog 17 #[x, y] u fun r w' => r = .returned (.bool true) ∧ Below u.heap.size u w') := fun u x y hx hy => eqTexts_any x y l u hl hx hy
  have HV : Hid (∀ u, Below w.heap.size w u → SliceIs u v l) := fun u hu => hv.up hu
  clear hv hz hT
  unfold maxLen at hk
  by_cases h1 : 1048576 < key.size
  · go_enter Tryd.func5, Tryd.ntmps5
    go_wp2
    go_ret
    exact ⟨rfl, HB.out⟩
  · by_cases h2 : szV 1048576 l < 0
    · generalize szV 1048576 l = q at *
      have d : decide (q < 0) = true := decide_eq_true h2
      go_enter Tryd.func5, Tryd.ntmps5
      go_wp2_with (go_at_call 13; (refine (HZ.out).mono ?_); rintro e w1 ⟨rfl, hb1⟩)
      go_ret
      exact ⟨rfl, hb1⟩
    · have hs2 := (szV_big h2).1
      have HTo : Hid (∀ u, Below w.heap.size w u → Calls Tryd.prog 15 #[v] u fun r w' => r = .returned (.slice (some ⟨u.heap.size, 0, none⟩) l.length l.length) ∧ Below u.heap.size u w' ∧ Blk w' u.heap.size l) := fun u hu => toTexts_any v l u hs2 (HV.out u hu)
      generalize szV 1048576 l = q at *
      have d : decide (q < 0) = false := decide_eq_false h2
      generalize logT macB key l = z at *
      have hzz : (z.toList == z.toList) = true := by simp
      go_enter Tryd.func5, Tryd.ntmps5
      go_wp2_with (first | (go_at_call 13; (refine (HZ.out).mono ?_); rintro e w1 ⟨rfl, hb1⟩) | (go_at_call 15; fail))
      refine (HTo.out w1 hb1).mono ?_
      rintro e w2 ⟨rfl, hb2, hk2⟩
      have hc2 := hb1.trans (hb2.mono hb1.size)
      generalize w1.heap.size = g1 at *
      clear hb1 hb2 HZ d
      go_wp2_with (go_at_call 14; fail)
      refine (HM.out w2 _ hk2.slice).mono ?_
      rintro e w3 ⟨rfl, hb3⟩
      have hc3 := hc2.trans (hb3.mono hc2.size)
      clear hc2 hb3 hk2 HM
      go_wp2_with (go_at_call 15; fail)
      refine (HTo.out w3 hc3).mono ?_
      rintro e w4 ⟨rfl, hb4, hk4⟩
      have hc4 := hc3.trans (hb4.mono hc3.size)
      clear hc3 hb4
      generalize w3.heap.size = g3 at *
      go_wp2_with (go_at_call 16; fail)
      refine (HI.out w4 _ hc4 hk4.slice).mono ?_
      rintro e w5 ⟨rfl, hb5⟩
      have hc5 := hc4.trans (hb5.mono hc4.size)
      have hk5 := hk4.up hb5
      clear hc4 hk4 hb5 HI
      go_wp2_with (go_at_call 15; fail)
      refine (HTo.out w5 hc5).mono ?_
      rintro e w6 ⟨rfl, hb6, hk6⟩
      have hc6 := hc5.trans (hb6.mono hc5.size)
      have hk56 := hk5.up hb6
      clear hc5 hk5 hb6 HTo
      generalize w5.heap.size = g5 at *
      go_wp2_with (go_at_call 17; fail)
      refine (HE.out w6 _ _ hk56.slice hk6.slice).mono ?_
      rintro e w7 ⟨rfl, hb7⟩
      have hc7 := hc6.trans (hb7.mono hc6.size)
      clear hc6 hk56 hk6 hb7 HE
      go_wp2
      go_ret
      exact ⟨rfl, hc7⟩
end Go.Proofs.YtjnlffdopbfelaaDoor.ll
