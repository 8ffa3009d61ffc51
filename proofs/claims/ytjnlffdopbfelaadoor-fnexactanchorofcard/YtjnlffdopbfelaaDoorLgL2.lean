/-
  The law that holds the program's AnchorOf against the model's tells true at every argument. Condition: the table of the rounds' numbers lies in its variable.
-/
import Derived.Test.YtjnlffdopbfelaaDoorLgL1
namespace Go.Proofs.YtjnlffdopbfelaaDoor.ll
open Go.ChangeShapes Go.WideShapes Go.ChangeAt Go.RowKit
open Go.Proofs.YtjnlffdopbfelaaDoor.wi (heap_lt calls_w wp_w)
open Go.Proofs.YtjnlffdopbfelaaDoor.lg Go.Proofs.YtjnlffdopbfelaaDoor.ss Go.Proofs.YtjnlffdopbfelaaDoor.li
open Go.Proofs.YtjnlffdopbfelaaDoor.lm (anchorM_any outA chain_le)
open Go.Proofs.YtjnlffdopbfelaaDoor.sh (macB Tab Tab.up)
set_option linter.unusedVariables false

theorem infoAn : (Tryd.prog.info? 39).map (·.size) = some 2 := by kernel_rfl
set_option maxRecDepth 20000 in
set_option maxHeartbeats 8000000 in
theorem eqAnchor_any (n : Int) (c : ByteArray) (w : World) : Calls Tryd.prog 25 #[.agg #[.int .i64 n, .string c], .agg #[.int .i64 n, .string c]] w fun r w' => r = .returned (.bool true) ∧ Below w.heap.size w w' := by
  have q1 : (n == n) = true := by simp
  have q4 : (c.toList == c.toList) = true := by simp
  have HB : Hid (Below w.heap.size w ((w.alloc (.cells #[.int .i64 n, .string c] 39)).alloc (.cells #[.int .i64 n, .string c] 39))) := ((Below.refl _ _).alloc (Nat.le_refl _) _).alloc (by simp) _
  go_enter Tryd.func25, Tryd.ntmps25
  go_wp2
  go_ret
  exact ⟨rfl, HB.out⟩
/-- what is known behind an answer: its block -/
def InA1 (w : World) (g : Nat) (n : Int) (c : ByteArray) (u : World) : Prop := Below w.heap.size w u ∧ u.heap[g]? = some (.cells #[.int .i64 n, .string c] 39 (0, 0))
theorem InA1.up {w u u' : World} {g : Nat} {n : Int} {c : ByteArray} (h : InA1 w g n c u) (hb : Below u.heap.size u u') : InA1 w g n c u' := ⟨h.1.trans (hb.mono h.1.size), (hb.block _ (heap_lt h.2)).trans h.2⟩
set_option maxRecDepth 20000 in
set_option maxHeartbeats 8000000 in
theorem anchorLaw (w : World) (key : ByteArray) (hk : key.size ≤ maxLen) (v : Value) (l : List ByteArray) (hl : l.length ≤ maxLen) (hz : ∀ r ∈ l, r.size ≤ maxLen) (hv : SliceIs w v l) (n : Int) (hT : Tab w) :
    Calls Tryd.prog 7 #[.string key, v, .int .i64 n] w fun e w' => e = .returned (.bool true) ∧ Below w.heap.size w w' := by
  have HB : Hid (Below w.heap.size w w) := Below.refl _ _
  have HZ : Hid (Calls Tryd.prog 13 #[v, .int .i64 1048576] w fun r w' => r = .returned (.int .i64 (szV 1048576 l)) ∧ Below w.heap.size w w') := szTexts_any v l 1048576 w (by omega) (by omega) hl hz hv
  obtain ⟨m, c, hA⟩ : ∃ m c, anchorA macB key l n = (m, c) := ⟨_, _, rfl⟩
  have HM : Hid (∀ u x, SliceIs u x l → Calls Tryd.prog 23 #[.string key, x, .int .i64 n] u fun r w' => r = .returned (.agg #[.int .i64 m, .string c]) ∧ Below u.heap.size u w') := fun u x hx => by
    have := anchorM_any key x l n u hk hl hz hx
    rwa [hA] at this
  have HI : Hid (∀ u x, Below w.heap.size w u → SliceIs u x l → Capd x → Calls Tryd.prog 24 #[.string key, x, .int .i64 n] u fun r w' => r = .returned (.agg #[.int .i64 m, .string c]) ∧ Below u.heap.size u w') := fun u x hu hx hc => by
    have := anchorI_any key x l n u hk hl hz (hT.up hu) hx hc
    rwa [hA] at this
  have HE : Hid (∀ u x y, SliceIs u x l → SliceIs u y l → Calls Tryd.prog 17 #[x, y] u fun r w' => r = .returned (.bool true) ∧ Below u.heap.size u w') := fun u x y hx hy => eqTexts_any x y l u hl hx hy
  have HV : Hid (∀ u, Below w.heap.size w u → SliceIs u v l) := fun u hu => hv.up hu
  clear hv hz hT hA
  unfold maxLen at hk
  by_cases h1 : 1048576 < key.size
  · go_enter Tryd.func7, Tryd.ntmps7
    go_wp2
    go_ret
    exact ⟨rfl, HB.out⟩
  · by_cases h2 : szV 1048576 l < 0
    · generalize szV 1048576 l = q at *
      have d : decide (q < 0) = true := decide_eq_true h2
      go_enter Tryd.func7, Tryd.ntmps7
      go_wp2_with (go_at_call 13; (refine (HZ.out).mono ?_); rintro e w1 ⟨rfl, hb1⟩)
      go_ret
      exact ⟨rfl, hb1⟩
    · have hs2 := (szV_big h2).1
      have hcap : ∀ g : Nat, Capd (.slice (some ⟨g, 0, none⟩) l.length l.length) := fun g p m2 cap e => by
        simp only [Value.slice.injEq] at e
        obtain ⟨_, rfl, rfl⟩ := e
        exact ⟨Nat.le_refl _, hl⟩
      have HTo : Hid (∀ u, Below w.heap.size w u → Calls Tryd.prog 15 #[v] u fun r w' => r = .returned (.slice (some ⟨u.heap.size, 0, none⟩) l.length l.length) ∧ Below u.heap.size u w' ∧ Blk w' u.heap.size l) := fun u hu => toTexts_any v l u hs2 (HV.out u hu)
      generalize szV 1048576 l = q at *
      have d : decide (q < 0) = false := decide_eq_false h2
      have HCap : Hid (∀ g : Nat, Capd (.slice (some ⟨g, 0, none⟩) l.length l.length)) := hcap
      clear hcap
      go_enter Tryd.func7, Tryd.ntmps7
      go_wp2_with (first | (go_at_call 13; (refine (HZ.out).mono ?_); rintro e w1 ⟨rfl, hb1⟩) | (go_at_call 15; fail))
      refine (HTo.out w1 hb1).mono ?_
      rintro e w2 ⟨rfl, hb2, hk2⟩
      have hc2 := hb1.trans (hb2.mono hb1.size)
      generalize w1.heap.size = g1 at *
      clear hb1 hb2 HZ d
      go_wp2_with (go_at_call 23; fail)
      refine (HM.out w2 _ hk2.slice).mono ?_
      rintro e w3 ⟨rfl, hb3⟩
      have hc3 := hc2.trans (hb3.mono hc2.size)
      clear hc2 hb3 hk2 HM
      have hI3 : InA1 w w3.heap.size m c (w3.alloc (.cells #[.int .i64 m, .string c] 39)) := ⟨hc3.alloc hc3.size _, heap_alloc_new _ _⟩
      go_wp2_with (go_at_call 15; fail)
      generalize w3.heap.size = g3 at *
      refine calls_w (InA1 w g3 m c) hI3 ?_
      clear hI3 hc3
      intro u3 hI3
      refine (HTo.out u3 hI3.1).mono ?_
      rintro e w4 ⟨rfl, hb4, hk4⟩
      have hI4 := hI3.up hb4
      clear hI3 hb4
      generalize u3.heap.size = g4 at *
      go_wp2_with (go_at_call 24; fail)
      refine (HI.out w4 _ hI4.1 hk4.slice (HCap.out _)).mono ?_
      rintro e w5 ⟨rfl, hb5⟩
      have hI5 := hI4.up hb5
      have hk5 := hk4.up hb5
      clear hI4 hk4 hb5 HI HCap
      have hb6 : Below w5.heap.size w5 (w5.alloc (.cells #[.int .i64 m, .string c] 39)) := (Below.refl _ _).alloc (Nat.le_refl _) _
      have hI6 := hI5.up hb6
      have hk6 := hk5.up hb6
      have hJ6 := heap_alloc_new w5 (.cells #[.int .i64 m, .string c] 39)
      have hr1 := hI6.2
      clear hI5 hk5 hb6
      go_wp2_with (first | (refine wpList_load_row rfl 39 _ rfl w5.heap.size rfl _ _ _ _ hJ6 Tryd.underlying39 rfl infoAn ?_) | (refine wpList_load_row rfl 39 _ rfl g3 rfl _ _ _ _ hr1 Tryd.underlying39 rfl infoAn ?_) | (go_at_call 25; fail))
      refine calls_w (fun u => InA1 w g3 m c u ∧ Blk u g4 l) ⟨hI6, hk6⟩ ?_
      clear hI6 hk6 hJ6 hr1
      rintro u7 ⟨hI7, hk7⟩
      refine (eqAnchor_any m c u7).mono ?_
      rintro e w8 ⟨rfl, hb8⟩
      have hI8 := hI7.up hb8
      have hk8 := hk7.up hb8
      clear hI7 hk7 hb8
      go_wp2_with (go_at_call 15; fail)
      refine (HTo.out w8 hI8.1).mono ?_
      rintro e w9 ⟨rfl, hb9, hk9⟩
      have hc9 := (hI8.up hb9).1
      have hk89 := hk8.up hb9
      clear hI8 hk8 hb9 HTo
      generalize w8.heap.size = g8 at *
      go_wp2_with (go_at_call 17; fail)
      refine (HE.out w9 _ _ hk89.slice hk9.slice).mono ?_
      rintro e w10 ⟨rfl, hb10⟩
      have hc10 := hc9.trans (hb10.mono hc9.size)
      clear hc9 hk89 hk9 hb10 HE
      go_wp2
      go_ret
      exact ⟨rfl, hc10⟩
end Go.Proofs.YtjnlffdopbfelaaDoor.ll
