/-
  For every receiver and update the law that holds the program's ReceiverHear against the model's answers true: no condition.
-/
import Derived.Test.YtjjfdkmhoocfhabRows
import Derived.Test.YtjjfdkmhoocfhabStL3
import Derived.Test.YtjjfdkmhoocfhabStOpR
import Derived.Test.YtjjfdkmhoocfhabStOpU
namespace Go.Proofs.Ytjjfdkmhoocfhab.fnExactReceiverHear
open Go.ChangeShapes Go.WideShapes Go.ChangeAt Go.RowKit
open Go.ChangeMaps (open_string shut_string)
set_option linter.unusedVariables false

theorem own : ownKnob Try.prog.godebug = none := by kernel_rfl
theorem laidOut : laidOutB Try.prog = true := by kernel_rfl

theorem walk (w : World) (nn0 : Int) (tt0 : ByteArray) (ww0 : (Lit.int .i64 nn0).wf = true) (zz0 : tt0.size ≤ maxLen) (ff1 uu1 kk1 : Int) (tt1 : ByteArray) (ww1 : (Lit.int .i64 ff1).wf = true) (wx1 : (Lit.int .i64 uu1).wf = true) (wy1 : (Lit.int .i64 kk1).wf = true) (zz1 : tt1.size ≤ maxLen) :
    Calls Try.prog 4 #[.agg #[.int .i64 nn0, .string tt0], .agg #[.int .i64 ff1, .int .i64 uu1, .int .i64 kk1, .string tt1]] w fun e w' => e = .returned (.bool true) ∧ Below w.heap.size w w' :=
  st.lawReceiverHear nn0 tt0 ff1 uu1 kk1 tt1 w zz0 zz1

set_option maxHeartbeats 1000000 in
set_option maxRecDepth 100000 in
theorem lifted (os : Os) (started : os.Started) (H : Type) (enc : TypeId × Value → H) :
    ReturnsInHanded {} Try.checked os 4 .any (Rows.fnExactReceiverHearSpec.pre6 enc Try.prog Try.f4 Rows.fnExactReceiverHearRow.domain false) (Rows.fnExactReceiverHearSpec.post enc Try.prog Try.f4 false true false false) := by
  refine returnsInHanded_of_change (C := Try.checked) own started (by kernel_rfl) Try.func4
    (ChangeSpec.witness6 (enc := enc) (C := Try.checked) false ⟨#[], #[.agg #[.int .i64 0, .string ByteArray.empty], .agg #[.int .i64 0, .int .i64 0, .int .i64 0, .string ByteArray.empty]], []⟩ 8 (by kernel_rfl) (by kernel_rfl) (by kernel_rfl) (by kernel_rfl)) ?_
  intro W base args ds gs before hval0 hW hcnd _
  have hval : ∀ (j : Nat) t v, Try.f4.params[j]? = some t → args[j]? = some v → Value.okWide Try.prog W .any base t v := hval0
  have hW' := hW
  obtain ⟨p, q, hA0, hV, rfl, hfz, hnd⟩ := hW
  have hA : DataW.TrodAll enc Try.prog W 0 (fun _ => true) true Try.f4.params.toList args.toList ds p := hA0
  rw [Try.params4] at hA hval
  obtain ⟨v0, vs0, d0, ds0, p0, q0, hargs, rfl, rfl, h0, r0⟩ := trodAll_cons hA
  obtain ⟨v1, vs1, d1, ds1, p1, q1, rfl, rfl, rfl, h1, r1⟩ := trodAll_cons r0
  obtain ⟨rfl, rfl, rfl⟩ := trodAll_nil r1
  obtain rfl : args = #[v0, v1] := by cases args; simp_all
  obtain ⟨rfl, rfl⟩ := trodVars_none hV
  have k0 := h0
  have lt0 : ∀ x ∈ p0, x.block < W.heap.size := by obtain ⟨m, hm⟩ := k0; exact DataW.trod_lt m _ _ _ hm
  obtain ⟨nn0, tt0, rfl, ww0, zz0⟩ := st.receiver_open (hval 0 41 v0 rfl rfl) h0
  have k1 := h1
  have lt1 : ∀ x ∈ p1, x.block < W.heap.size := by obtain ⟨m, hm⟩ := k1; exact DataW.trod_lt m _ _ _ hm
  obtain ⟨ff1, uu1, kk1, tt1, rfl, ww1, wx1, wy1, zz1⟩ := st.update_open (hval 1 43 v1 rfl rfl) h1
  clear hA0 hval0
  simp only [List.append_nil] at hW'
  refine (walk W nn0 tt0 ww0 zz0 ff1 uu1 kk1 tt1 ww1 wx1 wy1 zz1).mono fun e W' ⟨he, bel⟩ => ?_
  subst he
  exact ⟨_, rfl, _, _, _, [], _, [], hW', trodAll_mk1 (shut_bool Try.underlying4 _), (trodAll_cons_mk (Below.trod laidOut (by kernel_rfl) (of_decide_eq_true (by kernel_rfl)) k0 bel lt0) (trodAll_cons_mk (Below.trod laidOut (by kernel_rfl) (of_decide_eq_true (by kernel_rfl)) k1 bel lt1) trodAll_mk0)), rfl, bel.frame _, fun h => by cases h⟩

theorem over : Rows.fnExactReceiverHearRow.holds Try.pinned (OpenSpec.ofChange Rows.fnExactReceiverHearSpec) :=
  OpenClaim.holds_of_wide 4 Try.f4 rfl rfl rfl rfl rfl rfl rfl ⟨rfl, rfl, rfl, rfl, rfl⟩ rfl rfl rfl rfl rfl (by kernel_rfl) Try.func4 (by kernel_rfl)
    (of_decide_eq_true (by kernel_rfl)) (by unfold Func.isWrapper; first | (rw [if_pos (by decide +kernel)]; kernel_rfl) | (rw [if_neg (by decide +kernel)]; exact ⟨rfl, rfl⟩))
    (fun os started H enc _ => lifted os started H enc)

theorem proved : Rows.FnExactReceiverHearSaid :=
  over
#print axioms proved
end Go.Proofs.Ytjjfdkmhoocfhab.fnExactReceiverHear
