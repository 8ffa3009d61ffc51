/-
  For every screen the law that holds the program's ScreenText against the model's answers true: no condition.
-/
import Derived.Test.YtikkohecanmefaaRows
import Derived.Test.YtikkohecanmefaaScW2
import Derived.Test.YtikkohecanmefaaScO
namespace Go.Proofs.Ytikkohecanmefaa.fnExactScreenText
open Go.ChangeShapes Go.WideShapes Go.ChangeAt Go.RowKit
open Go.ChangeMaps (open_string shut_string)
set_option linter.unusedVariables false

theorem own : ownKnob Try.prog.godebug = none := by kernel_rfl
theorem laidOut : laidOutB Try.prog = true := by kernel_rfl

theorem walk (w : World) (x0 : Value) (l0 : List ByteArray) (n0 : l0.length ≤ maxLen) (z0 : ∀ r ∈ l0, r.size ≤ maxLen) (s0 : ss.SliceIs w x0 l0) (r0 c0 : Int) (e0 : ByteArray) (y0 : e0.size ≤ maxLen) (i0 : (Lit.int .i64 r0).wf = true) (j0 : (Lit.int .i64 c0).wf = true) :
    Calls Try.prog 6 #[.agg #[x0, .int .i64 r0, .int .i64 c0, .string e0]] w fun e w' => e = .returned (.bool true) ∧ Below w.heap.size w w' :=
  sc.lawText w x0 l0 r0 c0 e0 n0 z0 s0 y0

set_option maxRecDepth 100000 in
theorem lifted (os : Os) (started : os.Started) (H : Type) (enc : TypeId × Value → H) :
    ReturnsInHanded {} Try.checked os 6 .any (Rows.fnExactScreenTextSpec.pre6 enc Try.prog Try.f6 Rows.fnExactScreenTextRow.domain false) (Rows.fnExactScreenTextSpec.post enc Try.prog Try.f6 false true false false) := by
  refine returnsInHanded_of_change (C := Try.checked) own started (by kernel_rfl) Try.func6
    (ChangeSpec.witness6 (enc := enc) (C := Try.checked) false ⟨#[], #[.agg #[.slice none 0 0, .int .i64 0, .int .i64 0, .string ByteArray.empty]], []⟩ 8 (by kernel_rfl) (by kernel_rfl) (by kernel_rfl) (by kernel_rfl)) ?_
  intro W base args ds gs before hval0 hW hcnd _
  have hval : ∀ (j : Nat) t v, Try.f6.params[j]? = some t → args[j]? = some v → Value.okWide Try.prog W .any base t v := hval0
  have hW' := hW
  obtain ⟨p, q, hA0, hV, rfl, hfz, hnd⟩ := hW
  have hA : DataW.TrodAll enc Try.prog W 0 (fun _ => true) true Try.f6.params.toList args.toList ds p := hA0
  rw [Try.params6] at hA hval
  obtain ⟨v0, vs0, d0, ds0, p0, q0, hargs, rfl, rfl, h0, r0⟩ := trodAll_cons hA
  obtain ⟨rfl, rfl, rfl⟩ := trodAll_nil r0
  obtain rfl : args = #[v0] := by cases args; simp_all
  obtain ⟨rfl, rfl⟩ := trodVars_none hV
  have k0 := h0
  have lt0 : ∀ x ∈ p0, x.block < W.heap.size := by obtain ⟨m, hm⟩ := k0; exact DataW.trod_lt m _ _ _ hm
  obtain ⟨x0, l0, r0, c0, e0, rfl, n0, z0, s0, y0, i0, j0⟩ := sc.scr_open (hval 0 24 v0 rfl rfl) h0
  clear hA0 hval0
  simp only [List.append_nil] at hW'
  refine (walk W x0 l0 n0 z0 s0 r0 c0 e0 y0 i0 j0).mono fun e W' ⟨he, bel⟩ => ?_
  subst he
  exact ⟨_, rfl, _, _, _, [], _, [], hW', trodAll_mk1 (shut_bool Try.underlying4 _), (trodAll_cons_mk (Below.trod laidOut (by kernel_rfl) (of_decide_eq_true (by kernel_rfl)) k0 bel lt0) trodAll_mk0), rfl, bel.frame _, fun h => by cases h⟩

theorem over : Rows.fnExactScreenTextRow.holds Try.pinned (OpenSpec.ofChange Rows.fnExactScreenTextSpec) :=
  OpenClaim.holds_of_wide 6 Try.f6 rfl rfl rfl rfl rfl rfl rfl ⟨rfl, rfl, rfl, rfl, rfl⟩ rfl rfl rfl rfl rfl (by kernel_rfl) Try.func6 (by kernel_rfl)
    (of_decide_eq_true (by kernel_rfl)) (by unfold Func.isWrapper; first | (rw [if_pos (by decide +kernel)]; kernel_rfl) | (rw [if_neg (by decide +kernel)]; exact ⟨rfl, rfl⟩))
    (fun os started H enc _ => lifted os started H enc)

theorem proved : Rows.FnExactScreenTextSaid :=
  over
#print axioms proved
end Go.Proofs.Ytikkohecanmefaa.fnExactScreenText
