/-
  For every gram the law that holds the program's GramRight against the model's answers true: no condition.
-/
import Derived.Test.YtkfiigmfhfhkgahRows
import Derived.Test.YtkfiigmfhfhkgahGramR
import Derived.Lib.SmallJoins
namespace Go.Proofs.Ytkfiigmfhfhkgah.fnExactGramRight
open Go.ChangeShapes Go.WideShapes Go.ChangeAt Go.RowKit
open Go.Proofs.Ytkfiigmfhfhkgah.wi
open Classical
set_option linter.unusedVariables false

theorem own : ownKnob Try.prog.godebug = none := by kernel_rfl
theorem infoG : (Try.prog.info? 26).map (·.size) = some 4 := by kernel_rfl
theorem infoL : (Try.prog.info? 23).map (·.size) = some 4 := by kernel_rfl

set_option maxHeartbeats 2000000 in
theorem toGram_any (s e c : Int) (b : ByteArray) (w : World) :
    Calls Try.prog 7 #[.agg #[.int .i64 s, .int .i64 e, .int .i64 c, .string b]] w fun r w' => r = .returned (.agg #[.int .i64 s, .int .i64 e, .int .i64 c, .string b]) ∧ Below w.heap.size w w' := by
  have HB : Hid (Below w.heap.size w (((w.alloc (.cells #[.int .i64 s, .int .i64 e, .int .i64 c, .string b] 23)).alloc (.cells #[.int .i64 s, .int .i64 e, .int .i64 c, .string b] 26)).alloc (.cells #[.int .i64 s, .int .i64 e, .int .i64 c, .string b] 26))) := (((Below.refl _ _).alloc (Nat.le_refl _) _).alloc (((Below.refl _ _).alloc (Nat.le_refl _) _).size) _).alloc ((((Below.refl _ _).alloc (Nat.le_refl _) _).alloc (((Below.refl _ _).alloc (Nat.le_refl _) _).size) _).size) _
  go_enter Try.func7, Try.ntmps7
  go_wp2
  exact bodyPost_ret (results_cell_row Try.results7 _ _ (w.heap.size + 1) _ _ _ _ rfl ((Below.heap_alloc _ _ _ (by simp)).trans (heap_alloc2_new _ _ _)) Try.underlying26 rfl infoG) rfl ⟨rfl, HB.out⟩

set_option maxHeartbeats 2000000 in
theorem szGram_any (s e c : Int) (b : ByteArray) (w : World) (hb : b.size ≤ maxLen) :
    Calls Try.prog 5 #[.agg #[.int .i64 s, .int .i64 e, .int .i64 c, .string b], .int .i64 1048576] w fun r w' => r = .returned (.int .i64 (if 1048576 < b.size then -1 else 1048576 - (b.size : Int))) ∧ Below w.heap.size w w' := by
  have HB : Hid (∀ o, Below w.heap.size w (w.alloc o)) := fun o => (Below.refl _ _).alloc (Nat.le_refl _) o
  unfold maxLen at hb
  by_cases h : 1048576 < b.size
  · have d : decide (1048576 - (b.size : Int) < 0) = true := decide_eq_true (by omega)
    rw [if_pos h]
    go_enter Try.func5, Try.ntmps5
    go_wp2
    go_ret
    exact ⟨rfl, HB.out _⟩
  · have d : decide (1048576 - (b.size : Int) < 0) = false := decide_eq_false (by omega)
    rw [if_neg h]
    go_enter Try.func5, Try.ntmps5
    go_wp2
    go_ret
    exact ⟨rfl, HB.out _⟩

/-- what is known inside the law: the argument's block -/
def InG (w : World) (s e c : Int) (b : ByteArray) (u : World) : Prop := Below w.heap.size w u ∧ u.heap[w.heap.size]? = some (.cells #[.int .i64 s, .int .i64 e, .int .i64 c, .string b] 23 (0, 0))
theorem InG.up {w u u' : World} {s e c : Int} {b : ByteArray} (h : InG w s e c b u) (hb : Below u.heap.size u u') : InG w s e c b u' := ⟨h.1.trans (hb.mono h.1.size), (hb.block _ (heap_lt h.2)).trans h.2⟩

set_option maxHeartbeats 4000000 in
theorem walk (s e c : Int) (b : ByteArray) (w : World) (hb : b.size ≤ maxLen) :
    Calls Try.prog 3 #[.agg #[.int .i64 s, .int .i64 e, .int .i64 c, .string b]] w fun r w' => r = .returned (.bool true) ∧ Below w.heap.size w w' := by
  have HI0 : Hid (InG w s e c b (w.alloc (.cells #[.int .i64 s, .int .i64 e, .int .i64 c, .string b] 23))) := ⟨(Below.refl _ _).alloc (Nat.le_refl _) _, heap_alloc_new _ _⟩
  have hb' := hb
  unfold maxLen at hb'
  go_enter Try.func3, Try.ntmps3
  go_wp2_with (go_at_call 5; fail)
  refine calls_w (InG w s e c b) HI0.out ?_
  clear HI0
  intro u0 h0
  refine (szGram_any s e c b u0 hb).mono ?_
  rintro r w1 ⟨rfl, hb1⟩
  have h1 := h0.up hb1
  clear h0 hb1
  by_cases hbig : 1048576 < b.size
  · rw [if_pos hbig]
    have HB : Hid (Below w.heap.size w w1) := h1.1
    clear h1
    go_wp2
    go_ret
    exact ⟨rfl, HB.out⟩
  · rw [if_neg hbig]
    have d : decide (1048576 - (b.size : Int) < 0) = false := decide_eq_false (by omega)
    have hrow := h1.2
    go_wp2_with (first | (refine wpList_load_row rfl 23 _ rfl w.heap.size rfl _ _ _ _ hrow Try.underlying23 rfl infoL ?_) | (go_at_call 7; fail))
    clear hrow
    refine (toGram_any s e c b w1).mono ?_
    rintro r w2 ⟨rfl, hb2⟩
    have h2 := h1.up hb2
    clear h1 hb2
    go_wp2_with (go_at_call 6; fail)
    refine (gramM_any s e c b w2 hb).mono ?_
    rintro r w3 ⟨rfl, hb3⟩
    have h3 := h2.up hb3
    clear h2 hb3
    have hrow := h3.2
    go_wp2_with (first | (refine wpList_load_row rfl 23 _ rfl w.heap.size rfl _ _ _ _ hrow Try.underlying23 rfl infoL ?_) | (go_at_call 7; fail))
    clear hrow
    refine (toGram_any s e c b w3).mono ?_
    rintro r w4 ⟨rfl, hb4⟩
    have h4 := h3.up hb4
    clear h3 hb4
    go_wp2_with (go_at_call 8; fail)
    refine (gramI_any s e c b w4 hb).mono ?_
    rintro r w5 ⟨rfl, hb5⟩
    have h5 := h4.up hb5
    have HB : Hid (Below w.heap.size w w5) := h5.1
    clear h4 hb5 h5
    generalize decide (RightG s e c b.size) = z
    cases z
    · go_wp2
      go_ret
      exact ⟨rfl, HB.out⟩
    · go_wp2
      go_ret
      exact ⟨rfl, HB.out⟩

set_option maxRecDepth 100000 in
theorem lifted (os : Os) (started : os.Started) (H : Type) (enc : TypeId × Value → H) :
    ReturnsInHanded {} Try.checked os 3 .any (Rows.fnExactGramRightSpec.pre6 enc Try.prog Try.f3 Rows.fnExactGramRightRow.domain false) (Rows.fnExactGramRightSpec.post enc Try.prog Try.f3 false true false false) := by
  refine returnsInHanded_of_change (C := Try.checked) own started (by kernel_rfl) Try.func3
    (ChangeSpec.witness6 (enc := enc) (C := Try.checked) false ⟨#[], #[.agg #[.int .i64 0, .int .i64 0, .int .i64 0, .string ByteArray.empty]], []⟩ 8 (by kernel_rfl) (by kernel_rfl) (by kernel_rfl) (by kernel_rfl)) ?_
  intro W base args ds gs before hval0 hW hcnd _
  have hval : ∀ (j : Nat) t v, Try.f3.params[j]? = some t → args[j]? = some v → Value.okWide Try.prog W .any base t v := hval0
  have hW' := hW
  obtain ⟨p, q, hA0, hV, rfl, hfz, hnd⟩ := hW
  have hA : DataW.TrodAll enc Try.prog W 0 (fun _ => true) true Try.f3.params.toList args.toList ds p := hA0
  rw [Try.params3] at hA hval
  obtain ⟨v0, vs0, d0, ds0, p0, q0, hargs, rfl, rfl, h0, r0⟩ := trodAll_cons hA
  obtain ⟨rfl, rfl, rfl⟩ := trodAll_nil r0
  obtain rfl : args = #[v0] := by cases args; simp_all
  obtain ⟨rfl, rfl⟩ := trodVars_none hV
  obtain ⟨x0, x1, x2, x3, y0, y1, y2, y3, n, rfl, rfl, rfl, t0, t1, t2, t3⟩ := Joins.open_agg4 Try.underlying23 (by kernel_rfl) (by kernel_rfl) (hval 0 23 v0 rfl rfl) h0
  obtain ⟨a, ha, rfl, wa⟩ := DataW.trod_int Try.underlying2 t0
  obtain ⟨b, hb, rfl, wb⟩ := DataW.trod_int Try.underlying2 t1
  obtain ⟨c, hc, rfl, wc⟩ := DataW.trod_int Try.underlying2 t2
  obtain ⟨d, hd, rfl, wd⟩ := DataW.trod_string Try.underlying9 t3
  obtain rfl := (List.cons.inj ha).1
  obtain rfl := (List.cons.inj hb).1
  obtain rfl := (List.cons.inj hc).1
  obtain rfl := (List.cons.inj hd).1
  clear hA0 hval0
  simp only [List.append_nil] at hW'
  refine (walk a b c d W wd).mono fun e W' ⟨he, bel⟩ => ?_
  subst he
  exact ⟨_, rfl, _, _, _, [], _, [], hW', trodAll_mk1 (shut_bool Try.underlying4 _), (trodAll_cons_mk (Joins.shut_agg4 Try.underlying23 (by kernel_rfl) (by kernel_rfl) (Joins.field_of_Trod (shut_int Try.underlying2 wa) rfl) (Joins.field_of_Trod (shut_int Try.underlying2 wb) rfl) (Joins.field_of_Trod (shut_int Try.underlying2 wc) rfl) (Joins.field_of_Trod (Go.ChangeMaps.shut_string Try.underlying9 wd) rfl)) trodAll_mk0), rfl, bel.frame _, fun h => by cases h⟩

theorem over : Rows.fnExactGramRightRow.holds Try.pinned (OpenSpec.ofChange Rows.fnExactGramRightSpec) :=
  OpenClaim.holds_of_wide 3 Try.f3 rfl rfl rfl rfl rfl rfl rfl ⟨rfl, rfl, rfl, rfl, rfl⟩ rfl rfl rfl rfl rfl (by kernel_rfl) Try.func3 (by kernel_rfl)
    (of_decide_eq_true (by kernel_rfl)) (by unfold Func.isWrapper; first | (rw [if_pos (by decide +kernel)]; kernel_rfl) | (rw [if_neg (by decide +kernel)]; exact ⟨rfl, rfl⟩))
    (fun os started H enc _ => lifted os started H enc)

theorem proved : Rows.FnExactGramRightSaid :=
  over
#print axioms proved
end Go.Proofs.Ytkfiigmfhfhkgah.fnExactGramRight
