/-
  The law that holds the program's Clash against the model's tells true at every argument. Condition: the table of the rounds' numbers lies in its variable.
-/
import Derived.Test.YtjnlffdopbfelabDoorLgCx
import Derived.Test.YtjnlffdopbfelabDoorLogX2
import Derived.Test.YtjnlffdopbfelabDoorLogS
namespace Go.Proofs.YtjnlffdopbfelabDoor.ll
open Go.ChangeShapes Go.WideShapes Go.ChangeAt Go.RowKit
open Go.Proofs.YtjnlffdopbfelabDoor.wi (heap_lt calls_w wp_w)
open Go.Proofs.YtjnlffdopbfelabDoor.lg Go.Proofs.YtjnlffdopbfelabDoor.ss
open Go.Proofs.YtjnlffdopbfelabDoor.lm (ClashPost clashM_any)
open Go.Proofs.YtjnlffdopbfelabDoor.li (clashI_any Capd)
open Go.Proofs.YtjnlffdopbfelabDoor.sh (macB Tab Tab.up)
set_option linter.unusedVariables false

theorem infoCO : (Tryd.prog.info? 25).map (·.size) = some 3 := by kernel_rfl
theorem szV_fits {left : Int} {s : List ByteArray} (h0 : 0 ≤ left) (h1 : left ≤ 1048576) (h : ¬ szV left s < 0) : s.length ≤ 1048576 ∧ 0 ≤ szV left s ∧ szV left s ≤ 1048576 := by
  unfold szV at h ⊢
  split at h
  · omega
  · rw [if_neg (by assumption)]
    omega
set_option maxRecDepth 20000 in
set_option maxHeartbeats 8000000 in
theorem eqClash_any (x y : ByteArray) (k : Int) (w : World) : Calls Tryd.prog 8 #[.agg #[.string x, .string y, .int .i64 k], .agg #[.string x, .string y, .int .i64 k]] w fun r w' => r = .returned (.bool true) ∧ Below w.heap.size w w' := by
  have q1 : (k == k) = true := by simp
  have q2 : (x.toList == x.toList) = true := by simp
  have q3 : (y.toList == y.toList) = true := by simp
  have HB : Hid (Below w.heap.size w ((w.alloc (.cells #[.string x, .string y, .int .i64 k] 25)).alloc (.cells #[.string x, .string y, .int .i64 k] 25))) := ((Below.refl _ _).alloc (Nat.le_refl _) _).alloc (by simp) _
  go_enter Tryd.func8, Tryd.ntmps8
  go_wp2
  go_ret
  exact ⟨rfl, HB.out⟩
/-- what is known behind an answer: its block, and the copies' -/
structure InCl (w : World) (g : Nat) (x y : ByteArray) (k : Int) (u : World) : Prop where
  below : Below w.heap.size w u
  blk : u.heap[g]? = some (.cells #[.string x, .string y, .int .i64 k] 25 (0, 0))
theorem InCl.up {w u u' : World} {g : Nat} {x y : ByteArray} {k : Int} (h : InCl w g x y k u) (hb : Below u.heap.size u u') : InCl w g x y k u' := ⟨h.below.trans (hb.mono h.below.size), (hb.block _ (heap_lt h.blk)).trans h.blk⟩
set_option maxRecDepth 20000 in
set_option maxHeartbeats 8000000 in
theorem clashLaw (w : World) (key : ByteArray) (hk : key.size ≤ maxLen) (n : Int) (va : Value) (a : List ByteArray) (hla : a.length ≤ maxLen) (hza : ∀ r ∈ a, r.size ≤ maxLen) (hva : SliceIs w va a) (vb : Value) (b : List ByteArray) (hlb : b.length ≤ maxLen) (hzb : ∀ r ∈ b, r.size ≤ maxLen) (hvb : SliceIs w vb b) (hT : Tab w) :
    Calls Tryd.prog 3 #[.string key, .int .i64 n, va, vb] w fun e w' => e = .returned (.bool true) ∧ Below w.heap.size w w' := by
  have HB : Hid (Below w.heap.size w w) := Below.refl _ _
  have HZa : Hid (Calls Tryd.prog 4 #[va, .int .i64 1048576] w fun r w' => r = .returned (.int .i64 (szV 1048576 a)) ∧ Below w.heap.size w w') := szTexts_any va a 1048576 w (by omega) (by omega) hla hza hva
  have HZb : Hid (∀ u left, Below w.heap.size w u → 0 ≤ left → left ≤ 1048576 → Calls Tryd.prog 4 #[vb, .int .i64 left] u fun r w' => r = .returned (.int .i64 (szV left b)) ∧ Below u.heap.size u w') := fun u left hu h0 h1 => szTexts_any vb b left u h0 h1 hlb hzb (hvb.up hu)
  obtain ⟨x, y, k, hA⟩ : ∃ x y k, clashA macB key n a b = (x, y, k) := ⟨_, _, _, rfl⟩
  have HM : Hid (∀ u p q, SliceIs u p a → SliceIs u q b → Calls Tryd.prog 5 #[.string key, .int .i64 n, p, q] u fun r w' => r = .returned (.agg #[.string x, .string y, .int .i64 k]) ∧ Below u.heap.size u w') := fun u p q hp hq => by
    have := clashM_any key n p q a b u hk hla hlb hza hzb hp hq
    rwa [hA] at this
  have HI : Hid (∀ u p q, Below w.heap.size w u → SliceIs u p a → SliceIs u q b → Capd p → Capd q → Calls Tryd.prog 7 #[.string key, .int .i64 n, p, q] u fun r w' => r = .returned (.agg #[.string x, .string y, .int .i64 k]) ∧ Below u.heap.size u w') := fun u p q hu hp hq hcp hcq => by
    have := clashI_any key n p q a b u hk hla hlb hza hzb hp hq hcp hcq (hT.up hu)
    rwa [hA] at this
  have HEa : Hid (∀ u p q, SliceIs u p a → SliceIs u q a → Calls Tryd.prog 9 #[p, q] u fun r w' => r = .returned (.bool true) ∧ Below u.heap.size u w') := fun u p q hp hq => eqTexts_any p q a u hla hp hq
  have HEb : Hid (∀ u p q, SliceIs u p b → SliceIs u q b → Calls Tryd.prog 9 #[p, q] u fun r w' => r = .returned (.bool true) ∧ Below u.heap.size u w') := fun u p q hp hq => eqTexts_any p q b u hlb hp hq
  have HVa : Hid (∀ u, Below w.heap.size w u → SliceIs u va a) := fun u hu => hva.up hu
  have HVb : Hid (∀ u, Below w.heap.size w u → SliceIs u vb b) := fun u hu => hvb.up hu
  have hcap : ∀ (m g : Nat), m ≤ maxLen → Capd (.slice (some ⟨g, 0, none⟩) m m) := fun m g hm p m2 cap e => by
    simp only [Value.slice.injEq] at e
    obtain ⟨_, rfl, rfl⟩ := e
    exact ⟨Nat.le_refl _, hm⟩
  have HCa : Hid (∀ g : Nat, Capd (.slice (some ⟨g, 0, none⟩) a.length a.length)) := fun g => hcap _ g hla
  have HCb : Hid (∀ g : Nat, Capd (.slice (some ⟨g, 0, none⟩) b.length b.length)) := fun g => hcap _ g hlb
  clear hva hvb hza hzb hT hA hcap
  unfold maxLen at hk
  by_cases h1 : 1048576 < key.size
  · go_enter Tryd.func3, Tryd.ntmps3
    go_wp2
    go_ret
    exact ⟨rfl, HB.out⟩
  · by_cases h2 : szV 1048576 a < 0
    · generalize szV 1048576 a = q at *
      have d : decide (q < 0) = true := decide_eq_true h2
      go_enter Tryd.func3, Tryd.ntmps3
      go_wp2_with (go_at_call 4; (refine (HZa.out).mono ?_); rintro e w1 ⟨rfl, hb1⟩)
      go_ret
      exact ⟨rfl, hb1⟩
    · obtain ⟨ha2, hq0, hq1⟩ := szV_fits (by omega) (by omega) h2
      generalize szV 1048576 a = q at *
      have d : decide (q < 0) = false := decide_eq_false h2
      have HZb2 : Hid (∀ u, Below w.heap.size w u → Calls Tryd.prog 4 #[vb, .int .i64 q] u fun r w' => r = .returned (.int .i64 (szV q b)) ∧ Below u.heap.size u w') := fun u hu => HZb.out u q hu hq0 hq1
      clear HZb
      by_cases h3 : szV q b < 0
      · generalize szV q b = q2 at *
        have d2 : decide (q2 < 0) = true := decide_eq_true h3
        go_enter Tryd.func3, Tryd.ntmps3
        go_wp2_with (go_at_call 4; fail)
        refine (HZa.out).mono ?_
        rintro e w1 ⟨rfl, hb1⟩
        go_wp2_with (go_at_call 4; fail)
        refine (HZb2.out w1 hb1).mono ?_
        rintro e w2 ⟨rfl, hb2⟩
        have hc2 := hb1.trans (hb2.mono hb1.size)
        go_wp2
        go_ret
        exact ⟨rfl, hc2⟩
      · obtain ⟨hb2', _, _⟩ := szV_fits hq0 hq1 h3
        generalize szV q b = q2 at *
        have d2 : decide (q2 < 0) = false := decide_eq_false h3
        have HTa : Hid (∀ u, Below w.heap.size w u → Calls Tryd.prog 6 #[va] u fun r w' => r = .returned (.slice (some ⟨u.heap.size, 0, none⟩) a.length a.length) ∧ Below u.heap.size u w' ∧ Blk w' u.heap.size a) := fun u hu => toTexts_any va a u ha2 (HVa.out u hu)
        have HTb : Hid (∀ u, Below w.heap.size w u → Calls Tryd.prog 6 #[vb] u fun r w' => r = .returned (.slice (some ⟨u.heap.size, 0, none⟩) b.length b.length) ∧ Below u.heap.size u w' ∧ Blk w' u.heap.size b) := fun u hu => toTexts_any vb b u hb2' (HVb.out u hu)
        go_enter Tryd.func3, Tryd.ntmps3
        go_wp2_with (go_at_call 4; fail)
        refine (HZa.out).mono ?_
        rintro e w1 ⟨rfl, hb1⟩
        go_wp2_with (go_at_call 4; fail)
        refine (HZb2.out w1 hb1).mono ?_
        rintro e w2 ⟨rfl, hb2⟩
        have hc2 := hb1.trans (hb2.mono hb1.size)
        clear HZa HZb2 hb1 hb2
        go_wp2_with (go_at_call 6; fail)
        clear d d2
        refine (HTa.out w2 hc2).mono ?_
        rintro e w3 ⟨rfl, hb3, hk3⟩
        have hc3 := hc2.trans (hb3.mono hc2.size)
        generalize w2.heap.size = g2 at *
        clear hb3
        go_wp2_with (go_at_call 6; fail)
        refine (HTb.out w3 hc3).mono ?_
        rintro e w4 ⟨rfl, hb4, hk4⟩
        have hc4 := hc3.trans (hb4.mono hc3.size)
        have hk34 := hk3.up hb4
        generalize w3.heap.size = g3 at *
        clear hb4 hk3
        go_wp2_with (go_at_call 5; fail)
        refine (HM.out w4 _ _ hk34.slice hk4.slice).mono ?_
        rintro e w5 ⟨rfl, hb5⟩
        have hc5 := hc4.trans (hb5.mono hc4.size)
        clear hb5 hk34 hk4 HM
        have hI5 : InCl w w5.heap.size x y k (w5.alloc (.cells #[.string x, .string y, .int .i64 k] 25)) := ⟨hc5.alloc hc5.size _, heap_alloc_new _ _⟩
        go_wp2_with (go_at_call 6; fail)
        generalize w5.heap.size = g5 at *
        refine calls_w (InCl w g5 x y k) hI5 ?_
        clear hI5 hc5
        intro u5 hI5
        refine (HTa.out u5 hI5.below).mono ?_
        rintro e w6 ⟨rfl, hb6, hk6⟩
        have hI6 := hI5.up hb6
        generalize u5.heap.size = g6 at *
        clear hI5 hb6
        go_wp2_with (go_at_call 6; fail)
        refine (HTb.out w6 hI6.below).mono ?_
        rintro e w7 ⟨rfl, hb7, hk7⟩
        have hI7 := hI6.up hb7
        have hk67 := hk6.up hb7
        generalize w6.heap.size = g7 at *
        clear hI6 hb7 hk6
        go_wp2_with (go_at_call 7; fail)
        refine (HI.out w7 _ _ hI7.below hk67.slice hk7.slice (HCa.out _) (HCb.out _)).mono ?_
        rintro e w8 ⟨rfl, hb8⟩
        have hI8 := hI7.up hb8
        have hka8 := hk67.up hb8
        have hkb8 := hk7.up hb8
        clear hI7 hk67 hk7 hb8 HI HCa HCb
        have hb9 : Below w8.heap.size w8 (w8.alloc (.cells #[.string x, .string y, .int .i64 k] 25)) := (Below.refl _ _).alloc (Nat.le_refl _) _
        have hI9 := hI8.up hb9
        have hka9 := hka8.up hb9
        have hkb9 := hkb8.up hb9
        have hJ9 := heap_alloc_new w8 (.cells #[.string x, .string y, .int .i64 k] 25)
        have hr9 := hI9.blk
        clear hI8 hka8 hkb8 hb9
        go_wp2_with (first | (refine wpList_load_row rfl 25 _ rfl w8.heap.size rfl _ _ _ _ hJ9 Tryd.underlying25 rfl infoCO ?_) | (refine wpList_load_row rfl 25 _ rfl g5 rfl _ _ _ _ hr9 Tryd.underlying25 rfl infoCO ?_) | (go_at_call 8; fail))
        refine calls_w (fun u => InCl w g5 x y k u ∧ Blk u g6 a ∧ Blk u g7 b) ⟨hI9, hka9, hkb9⟩ ?_
        clear hI9 hka9 hkb9 hJ9 hr9
        rintro u10 ⟨hI10, hka10, hkb10⟩
        refine (eqClash_any x y k u10).mono ?_
        rintro e w11 ⟨rfl, hb11⟩
        have hI11 := hI10.up hb11
        have hka11 := hka10.up hb11
        have hkb11 := hkb10.up hb11
        clear hI10 hka10 hkb10 hb11
        go_wp2_with (go_at_call 6; fail)
        refine (HTa.out w11 hI11.below).mono ?_
        rintro e w12 ⟨rfl, hb12, hk12⟩
        have hI12 := hI11.up hb12
        have hka12 := hka11.up hb12
        have hkb12 := hkb11.up hb12
        generalize w11.heap.size = g11 at *
        clear hI11 hka11 hkb11 hb12
        go_wp2_with (go_at_call 9; fail)
        refine (HEa.out w12 _ _ hka12.slice hk12.slice).mono ?_
        rintro e w13 ⟨rfl, hb13⟩
        have hI13 := hI12.up hb13
        have hkb13 := hkb12.up hb13
        clear hI12 hka12 hkb12 hk12 hb13 HEa
        go_wp2_with (go_at_call 6; fail)
        refine (HTb.out w13 hI13.below).mono ?_
        rintro e w14 ⟨rfl, hb14, hk14⟩
        have hI14 := hI13.up hb14
        have hkb14 := hkb13.up hb14
        generalize w13.heap.size = g13 at *
        clear hI13 hkb13 hb14
        go_wp2_with (go_at_call 9; fail)
        refine (HEb.out w14 _ _ hkb14.slice hk14.slice).mono ?_
        rintro e w15 ⟨rfl, hb15⟩
        have hc15 := (hI14.up hb15).below
        clear hI14 hkb14 hk14 hb15 HEb
        go_wp2
        go_ret
        exact ⟨rfl, hc15⟩
end Go.Proofs.YtjnlffdopbfelabDoor.ll
