/-
  The law that holds the program's Verify against the model's tells true at every key, anchor and text. Condition: the table of the rounds' numbers lies in its variable.
-/
import Derived.Test.YtjnlffdopbfelaaDoorLgV
import Derived.Test.YtjnlffdopbfelaaDoorLogV
namespace Go.Proofs.YtjnlffdopbfelaaDoor.ll
open Go.ChangeShapes Go.WideShapes Go.ChangeAt Go.RowKit
open Go.Proofs.YtjnlffdopbfelaaDoor.wi (heap_lt calls_w wp_w)
open Go.Proofs.YtjnlffdopbfelaaDoor.lg Go.Proofs.YtjnlffdopbfelaaDoor.ss
open Go.Proofs.YtjnlffdopbfelaaDoor.lm (VerPost verM_any)
open Go.Proofs.YtjnlffdopbfelaaDoor.li (verI_any)
open Go.Proofs.YtjnlffdopbfelaaDoor.sh (macB Tab Tab.up)
set_option linter.unusedVariables false

theorem infoLA : (Tryd.prog.info? 43).map (·.size) = some 2 := by kernel_rfl
theorem infoIA : (Tryd.prog.info? 39).map (·.size) = some 2 := by kernel_rfl
set_option maxRecDepth 20000 in
set_option maxHeartbeats 8000000 in
theorem szAnchor_any (n : Int) (c : ByteArray) (w : World) (hc : c.size ≤ maxLen) : Calls Tryd.prog 26 #[.agg #[.int .i64 n, .string c], .int .i64 1048576] w fun r w' => r = .returned (.int .i64 (if 1048576 < c.size then -1 else 1048576 - (c.size : Int))) ∧ Below w.heap.size w w' := by
  have HB : Hid (Below w.heap.size w (w.alloc (.cells #[.int .i64 n, .string c] 43))) := (Below.refl _ _).alloc (Nat.le_refl _) _
  unfold maxLen at hc
  by_cases h : 1048576 < c.size
  · rw [if_pos h]
    have d : decide (1048576 - (c.size : Int) < 0) = true := decide_eq_true (by omega)
    go_enter Tryd.func26, Tryd.ntmps26
    go_wp2
    go_ret
    exact ⟨rfl, HB.out⟩
  · rw [if_neg h]
    have d : decide (1048576 - (c.size : Int) < 0) = false := decide_eq_false (by omega)
    go_enter Tryd.func26, Tryd.ntmps26
    go_wp2
    go_ret
    exact ⟨rfl, HB.out⟩
set_option maxRecDepth 20000 in
set_option maxHeartbeats 8000000 in
theorem toAnchor_any (n : Int) (c : ByteArray) (w : World) : Calls Tryd.prog 28 #[.agg #[.int .i64 n, .string c]] w fun r w' => r = .returned (.agg #[.int .i64 n, .string c]) ∧ Below w.heap.size w w' := by
  have h2 : ∀ o1 o3 : Obj, ((((w.alloc o1).alloc (.cells #[.int .i64 n, .string c] 39)).alloc o3).heap[w.heap.size + 1]? = some (.cells #[.int .i64 n, .string c] 39 (0, 0))) ∧ Below w.heap.size w (((w.alloc o1).alloc (.cells #[.int .i64 n, .string c] 39)).alloc o3) := fun o1 o3 => by
    have h := heap_alloc_new (w.alloc o1) (.cells #[.int .i64 n, .string c] 39)
    rw [World.size_alloc] at h
    exact ⟨(Below.heap_alloc _ _ _ (by simp)).trans h, (((Below.refl _ _).alloc (Nat.le_refl _) _).alloc (by simp) _).alloc (by simp; omega) _⟩
  have H2 : Hid _ := h2
  clear h2
  go_enter Tryd.func28, Tryd.ntmps28
  go_wp2
  exact bodyPost_ret (results_cell_row Tryd.results28 _ _ (w.heap.size + 1) _ _ _ _ rfl (H2.out _ _).1 Tryd.underlying39 rfl infoIA) rfl ⟨rfl, (H2.out _ _).2⟩
/-- what is known inside the law: the argument's block -/
def InAq (w : World) (n : Int) (c : ByteArray) (u : World) : Prop := Below w.heap.size w u ∧ u.heap[w.heap.size]? = some (.cells #[.int .i64 n, .string c] 43 (0, 0))
theorem InAq.up {w u u' : World} {n : Int} {c : ByteArray} (h : InAq w n c u) (hb : Below u.heap.size u u') : InAq w n c u' := ⟨h.1.trans (hb.mono h.1.size), (hb.block _ (heap_lt h.2)).trans h.2⟩
set_option maxRecDepth 20000 in
set_option maxHeartbeats 8000000 in
theorem verLaw (w : World) (key : ByteArray) (hk : key.size ≤ maxLen) (n : Int) (c : ByteArray) (hc : c.size ≤ maxLen) (text : ByteArray) (ht : text.size ≤ maxLen) (hT : Tab w) :
    Calls Tryd.prog 8 #[.string key, .agg #[.int .i64 n, .string c], .string text] w fun e w' => e = .returned (.bool true) ∧ Below w.heap.size w w' := by
  have HI0 : Hid (InAq w n c (w.alloc (.cells #[.int .i64 n, .string c] 43))) := ⟨(Below.refl _ _).alloc (Nat.le_refl _) _, heap_alloc_new _ _⟩
  have HM : Hid (∀ u, Calls Tryd.prog 27 #[.string key, .agg #[.int .i64 n, .string c], .string text] u (VerPost u key n c text)) := fun u => verM_any key text c n u hk ht hc
  have HX : Hid (∀ u, Below w.heap.size w u → Calls Tryd.prog 29 #[.string key, .agg #[.int .i64 n, .string c], .string text] u (VerPost u key n c text)) := fun u hu => verI_any key text c n u hk ht hc (hT.up hu)
  have HS : Hid (∀ u, Calls Tryd.prog 26 #[.agg #[.int .i64 n, .string c], .int .i64 1048576] u fun r w' => r = .returned (.int .i64 (if 1048576 < c.size then -1 else 1048576 - (c.size : Int))) ∧ Below u.heap.size u w') := fun u => szAnchor_any n c u hc
  clear hT
  unfold maxLen at hk ht hc
  by_cases h1 : 1048576 < key.size
  · go_enter Tryd.func8, Tryd.ntmps8
    go_wp2
    go_ret
    exact ⟨rfl, HI0.out.1⟩
  · by_cases h2 : 1048576 < text.size
    · go_enter Tryd.func8, Tryd.ntmps8
      go_wp2
      go_ret
      exact ⟨rfl, HI0.out.1⟩
    · go_enter Tryd.func8, Tryd.ntmps8
      go_wp2_with (go_at_call 26; fail)
      refine calls_w (InAq w n c) HI0.out ?_
      clear HI0
      intro u0 h0
      refine (HS.out u0).mono ?_
      rintro r w1 ⟨rfl, hb1⟩
      have i1 := h0.up hb1
      clear h0 hb1
      by_cases h3 : 1048576 < c.size
      · rw [if_pos h3]
        have HB : Hid (Below w.heap.size w w1) := i1.1
        clear i1
        go_wp2
        go_ret
        exact ⟨rfl, HB.out⟩
      · rw [if_neg h3]
        have d : decide (1048576 - (c.size : Int) < 0) = false := decide_eq_false (by omega)
        have hrow := i1.2
        go_wp2_with (first | (refine wpList_load_row rfl 43 _ rfl w.heap.size rfl _ _ _ _ hrow Tryd.underlying43 rfl infoLA ?_) | (go_at_call 28; fail))
        clear hrow d
        refine (toAnchor_any n c w1).mono ?_
        rintro r w2 ⟨rfl, hb2⟩
        have i2 := i1.up hb2
        clear i1 hb2
        go_wp2_with (go_at_call 27; fail)
        refine (HM.out w2).mono ?_
        rintro r w3 ⟨d1, rfl, hd1, hb3⟩
        have i3 := i2.up hb3
        clear i2 hb3
        have hrow := i3.2
        go_wp2_with (first | (refine wpList_load_row rfl 43 _ rfl w.heap.size rfl _ _ _ _ hrow Tryd.underlying43 rfl infoLA ?_) | (go_at_call 28; fail))
        clear hrow
        refine (toAnchor_any n c w3).mono ?_
        rintro r w4 ⟨rfl, hb4⟩
        have i4 := i3.up hb4
        clear i3 hb4
        go_wp2_with (go_at_call 29; fail)
        refine (HX.out w4 i4.1).mono ?_
        rintro r w5 ⟨d2, rfl, hd2, hb5⟩
        have hBf := (i4.up hb5).1
        have hdd : d2 = d1 := by
          rcases d1 with _ | _ <;> rcases d2 with _ | _ <;> simp_all
        subst hdd
        clear i4 hb5 HM HX HS hd1 hd2
        cases d2
        · go_wp2
          go_ret
          exact ⟨rfl, hBf⟩
        · go_wp2
          go_ret
          exact ⟨rfl, hBf⟩
end Go.Proofs.YtjnlffdopbfelaaDoor.ll
