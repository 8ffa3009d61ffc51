/-
  For every four numbers the law that holds the program's Quarter against the model's answers true: no condition.
-/
import Derived.Test.YtjnfeohcimcgmagRows
import Derived.Test.YtjnfeohcimcgmagChaQI
import Derived.WalkKit
import Derived.ProofKit
import Derived.OpenShut
import Derived.ShutString
import Derived.Lib.SmallJoins
namespace Go.Proofs.Ytjnfeohcimcgmag.fnExactQuarter
open Go.ChangeShapes Go.WideShapes Go.ChangeAt Go.RowKit
set_option linter.unusedVariables false

theorem own : ownKnob Try.prog.godebug = none := by kernel_rfl

set_option maxHeartbeats 2000000 in
theorem toFour_any (a b c d : Int) (w : World) :
    Calls Try.prog 5 #[.agg #[.int .i64 a, .int .i64 b, .int .i64 c, .int .i64 d]] w fun e w' => e = .returned (.agg #[.int .i64 a, .int .i64 b, .int .i64 c, .int .i64 d]) ∧ Below w.heap.size w w' := by
  have HB : Hid (Below w.heap.size w (((w.alloc (.cells #[.int .i64 a, .int .i64 b, .int .i64 c, .int .i64 d] 23)).alloc (.cells #[.int .i64 a, .int .i64 b, .int .i64 c, .int .i64 d] 24)).alloc (.cells #[.int .i64 a, .int .i64 b, .int .i64 c, .int .i64 d] 24))) := (((Below.refl _ _).alloc (Nat.le_refl _) _).alloc (((Below.refl _ _).alloc (Nat.le_refl _) _).size) _).alloc ((((Below.refl _ _).alloc (Nat.le_refl _) _).alloc (((Below.refl _ _).alloc (Nat.le_refl _) _).size) _).size) _
  go_enter Try.func5, Try.ntmps5
  go_wp2
  exact bodyPost_ret (results_cell_row Try.results5 _ _ (w.heap.size + 1) _ _ _ _ rfl ((Below.heap_alloc _ _ _ (by simp)).trans (heap_alloc2_new _ _ _)) Try.underlying24 rfl cc.infoF) rfl ⟨rfl, HB.out⟩
theorem infoL : (Try.prog.info? 23).map (·.size) = some 4 := by kernel_rfl

set_option maxHeartbeats 2000000 in
theorem eqFour_any (a b c d : Int) (w : World) :
    Calls Try.prog 7 #[.agg #[.int .i64 a, .int .i64 b, .int .i64 c, .int .i64 d], .agg #[.int .i64 a, .int .i64 b, .int .i64 c, .int .i64 d]] w fun e w' => e = .returned (.bool true) ∧ Below w.heap.size w w' := by
  have HB : Hid (Below w.heap.size w ((w.alloc (.cells #[.int .i64 a, .int .i64 b, .int .i64 c, .int .i64 d] 24)).alloc (.cells #[.int .i64 a, .int .i64 b, .int .i64 c, .int .i64 d] 24))) := ((Below.refl _ _).alloc (Nat.le_refl _) _).alloc (((Below.refl _ _).alloc (Nat.le_refl _) _).size) _
  go_enter Try.func7, Try.ntmps7
  go_wp2
  go_ret
  exact ⟨rfl, HB.out⟩

set_option maxHeartbeats 2000000 in
theorem walk (a b c d : Int) (w : World) :
    Calls Try.prog 3 #[.agg #[.int .i64 a, .int .i64 b, .int .i64 c, .int .i64 d]] w fun e w' => e = .returned (.bool true) ∧ Below w.heap.size w w' := by
  go_enter Try.func3, Try.ntmps3
  go_wp2_with fail
  refine cc.calls_w4 (fun u => Below w.heap.size w u ∧ u.heap[w.heap.size]? = some (.cells #[.int .i64 a, .int .i64 b, .int .i64 c, .int .i64 d] 23 (0, 0))) ⟨(Below.refl _ _).alloc (Nat.le_refl _) _, heap_alloc_new _ _⟩ ?_
  rintro u0 ⟨hB0, h0⟩
  have hl0 := cc.lt_of h0
  refine (toFour_any a b c d u0).mono ?_
  rintro e w1 ⟨rfl, hb1⟩
  have hB1 := hB0.trans (hb1.mono hB0.size)
  have h1 := (hb1.block _ hl0).trans h0
  clear hB0 h0 hl0 hb1
  have hl1 := cc.lt_of h1
  go_wp2_with fail
  refine (cc.specQuarter_any a b c d w1).mono ?_
  rintro e w2 ⟨x, y, z, v, hT, rfl, hb2⟩
  have hB2 := hB1.trans (hb2.mono hB1.size)
  have h2 := (hb2.block _ hl1).trans h1
  clear hB1 h1 hl1 hb2
  have hl2 := cc.lt_of h2
  have HT : Hid (cc.Told4 a b c d x y z v) := hT
  clear hT
  have h2' : (w2.alloc (.cells #[.int .i64 x, .int .i64 y, .int .i64 z, .int .i64 v] 24)).heap[w.heap.size]? = some (.cells #[.int .i64 a, .int .i64 b, .int .i64 c, .int .i64 d] 23 (0, 0)) := (Below.heap_alloc _ _ _ hl2).trans h2
  have hn2 : (w2.alloc (.cells #[.int .i64 x, .int .i64 y, .int .i64 z, .int .i64 v] 24)).heap[w2.heap.size]? = some (.cells #[.int .i64 x, .int .i64 y, .int .i64 z, .int .i64 v] 24 (0, 0)) := heap_alloc_new _ _
  have hB2' := hB2.alloc hB2.size (.cells #[.int .i64 x, .int .i64 y, .int .i64 z, .int .i64 v] 24)
  clear h2
  go_wp2_with (refine wpList_load_row rfl 23 _ rfl w.heap.size rfl _ _ _ _ h2' Try.underlying23 rfl infoL ?_)
  obtain ⟨g2, hg2⟩ : ∃ g, g = w2.heap.size := ⟨_, rfl⟩
  rw [← hg2] at hn2 ⊢
  clear h2' hg2 hB2 hl2
  refine cc.calls_w4 (fun u => Below w.heap.size w u ∧ u.heap[g2]? = some (.cells #[.int .i64 x, .int .i64 y, .int .i64 z, .int .i64 v] 24 (0, 0))) ⟨hB2', hn2⟩ ?_
  clear hB2' hn2
  rintro u3 ⟨hB3, h3⟩
  have hl3 := cc.lt_of h3
  refine (toFour_any a b c d u3).mono ?_
  rintro e w4 ⟨rfl, hb4⟩
  have hB4 := hB3.trans (hb4.mono hB3.size)
  have h4 := (hb4.block _ hl3).trans h3
  clear hB3 h3 hl3 hb4
  have hl4 := cc.lt_of h4
  go_wp2_with fail
  refine (cc.implQuarter_any a b c d w4).mono ?_
  rintro e w5 ⟨x', y', z', v', hT', rfl, hb5⟩
  obtain ⟨rfl, rfl, rfl, rfl⟩ := HT.out.one hT'
  have hB5 := hB4.trans (hb5.mono hB4.size)
  have h5 := (hb5.block _ hl4).trans h4
  clear hB4 h4 hl4 hb5 hT' HT
  have hl5 := cc.lt_of h5
  have h5' : (w5.alloc (.cells #[.int .i64 x, .int .i64 y, .int .i64 z, .int .i64 v] 24)).heap[g2]? = some (.cells #[.int .i64 x, .int .i64 y, .int .i64 z, .int .i64 v] 24 (0, 0)) := (Below.heap_alloc _ _ _ hl5).trans h5
  have HB5 : Hid (Below w.heap.size w (w5.alloc (.cells #[.int .i64 x, .int .i64 y, .int .i64 z, .int .i64 v] 24))) := hB5.alloc hB5.size _
  clear h5 hB5
  go_wp2_with (first | (refine wpList_load_row rfl 24 _ rfl w5.heap.size rfl _ _ _ _ (heap_alloc_new _ _) Try.underlying24 rfl cc.infoF ?_) | (refine wpList_load_row rfl 24 _ rfl g2 rfl _ _ _ _ h5' Try.underlying24 rfl cc.infoF ?_) | (go_at_call 7; refine (eqFour_any x y z v _).mono ?_; rintro e w6 ⟨rfl, hb6⟩; have HB6 : Hid (Below w.heap.size w w6) := HB5.out.trans (hb6.mono HB5.out.size)))
  go_ret
  exact ⟨rfl, HB6.out⟩

set_option maxRecDepth 100000 in
theorem lifted (os : Os) (started : os.Started) (H : Type) (enc : TypeId × Value → H) :
    ReturnsInHanded {} Try.checked os 3 .any (Rows.fnExactQuarterSpec.pre6 enc Try.prog Try.f3 Rows.fnExactQuarterRow.domain false) (Rows.fnExactQuarterSpec.post enc Try.prog Try.f3 false true false false) := by
  refine returnsInHanded_of_change (C := Try.checked) own started (by kernel_rfl) Try.func3
    (ChangeSpec.witness6 (enc := enc) (C := Try.checked) false ⟨#[], #[.agg #[.int .i64 0, .int .i64 0, .int .i64 0, .int .i64 0]], []⟩ 8 (by kernel_rfl) (by kernel_rfl) (by kernel_rfl) (by kernel_rfl)) ?_
  intro W base args ds gs before hval0 hW hcnd _
  have hval : ∀ (j : Nat) t v, Try.f3.params[j]? = some t → args[j]? = some v → Value.okWide Try.prog W .any base t v := hval0
  have hW' := hW
  obtain ⟨p, q, hA0, hV, rfl, hfz, hnd⟩ := hW
  have hA : DataW.TrodAll enc Try.prog W 0 (fun _ => true) true Try.f3.params.toList args.toList ds p := hA0
  rw [Try.params3] at hA hval
  obtain ⟨v0, vs0, d0, ds0, p0, q0, hargs, rfl, rfl, h0, r0⟩ := trodAll_cons hA
  obtain ⟨rfl, rfl, rfl⟩ := trodAll_nil r0
  obtain rfl : args = #[v0] := by cases args; simp_all
  obtain ⟨rfl, rfl⟩ := trodVars_none hV
  obtain ⟨x0, x1, x2, x3, y0, y1, y2, y3, n, rfl, rfl, rfl, t0, t1, t2, t3⟩ := Joins.open_agg4 Try.underlying23 (by kernel_rfl) (by kernel_rfl) (hval 0 23 v0 rfl rfl) h0
  obtain ⟨a, ha, rfl, wa⟩ := DataW.trod_int Try.underlying2 t0
  obtain ⟨b, hb, rfl, wb⟩ := DataW.trod_int Try.underlying2 t1
  obtain ⟨c, hc, rfl, wc⟩ := DataW.trod_int Try.underlying2 t2
  obtain ⟨d, hd, rfl, wd⟩ := DataW.trod_int Try.underlying2 t3
  obtain rfl := (List.cons.inj ha).1
  obtain rfl := (List.cons.inj hb).1
  obtain rfl := (List.cons.inj hc).1
  obtain rfl := (List.cons.inj hd).1
  clear hA0 hval0
  simp only [List.append_nil] at hW'
  refine (walk a b c d W).mono fun e W' ⟨he, bel⟩ => ?_
  subst he
  exact ⟨_, rfl, _, _, _, [], _, [], hW', trodAll_mk1 (shut_bool Try.underlying4 _), (trodAll_cons_mk (Joins.shut_agg4 Try.underlying23 (by kernel_rfl) (by kernel_rfl) (Joins.field_of_Trod (shut_int Try.underlying2 wa) rfl) (Joins.field_of_Trod (shut_int Try.underlying2 wb) rfl) (Joins.field_of_Trod (shut_int Try.underlying2 wc) rfl) (Joins.field_of_Trod (shut_int Try.underlying2 wd) rfl)) trodAll_mk0), rfl, bel.frame _, fun h => by cases h⟩

theorem over : Rows.fnExactQuarterRow.holds Try.pinned (OpenSpec.ofChange Rows.fnExactQuarterSpec) :=
  OpenClaim.holds_of_wide 3 Try.f3 rfl rfl rfl rfl rfl rfl rfl ⟨rfl, rfl, rfl, rfl, rfl⟩ rfl rfl rfl rfl rfl (by kernel_rfl) Try.func3 (by kernel_rfl)
    (of_decide_eq_true (by kernel_rfl)) (by unfold Func.isWrapper; first | (rw [if_pos (by decide +kernel)]; kernel_rfl) | (rw [if_neg (by decide +kernel)]; exact ⟨rfl, rfl⟩))
    (fun os started H enc _ => lifted os started H enc)

theorem proved : Rows.FnExactQuarterSaid :=
  over
#print axioms proved
end Go.Proofs.Ytjnfeohcimcgmag.fnExactQuarter
