/-
  PatchBytes: the program against the model, at every patch. No condition.
-/
import Derived.Test.YtikkohecanmefabRows
import Derived.Test.YtikkohecanmefabPbW
import Derived.Test.YtikkohecanmefabPaO
namespace Go.Proofs.Ytikkohecanmefab.fnExactPatchBytes
open Go.ChangeShapes Go.WideShapes Go.ChangeAt Go.RowKit
open Go.ChangeMaps (open_string shut_string)
set_option linter.unusedVariables false
set_option linter.unusedSimpArgs false

theorem own : ownKnob Try.prog.godebug = none := by kernel_rfl
theorem laidOut : laidOutB Try.prog = true := by kernel_rfl

theorem walk (w : World) (x0 : Value) (l0 : List (Int × ByteArray)) (n0 : l0.length ≤ maxLen) (z0 : ∀ r ∈ l0, r.2.size ≤ maxLen ∧ (Lit.int .i64 r.1).wf = true) (s0 : ls.SliceIs w x0 l0) (r0 c0 : Int) (e0 : ByteArray) (y0 : e0.size ≤ maxLen) (i0 : (Lit.int .i64 r0).wf = true) (j0 : (Lit.int .i64 c0).wf = true) :
    Calls Try.prog 4 #[.agg #[x0, .int .i64 r0, .int .i64 c0, .string e0]] w fun e w' => e = .returned (.bool true) ∧ Below w.heap.size w w' :=
  ls.lawBytes w x0 l0 r0 c0 e0 n0 (fun r h => (z0 r h).1) s0 y0 (by simpa [pn.i64P, Lit.wf, IntKind.min, IntKind.max, IntKind.signed, IntKind.bits] using i0) (by simpa [pn.i64P, Lit.wf, IntKind.min, IntKind.max, IntKind.signed, IntKind.bits] using j0) (fun j hj => by rw [List.getD_eq_getElem?_getD, List.getElem?_eq_getElem hj]; have := (z0 _ (List.getElem_mem hj)).2; simpa [pn.i64P, Lit.wf, IntKind.min, IntKind.max, IntKind.signed, IntKind.bits] using this)

set_option maxRecDepth 100000 in
theorem lifted (os : Os) (started : os.Started) (H : Type) (enc : TypeId × Value → H) :
    ReturnsInHanded {} Try.checked os 4 .any (Rows.fnExactPatchBytesSpec.pre6 enc Try.prog Try.f4 Rows.fnExactPatchBytesRow.domain false) (Rows.fnExactPatchBytesSpec.post enc Try.prog Try.f4 false true false false) := by
  refine returnsInHanded_of_change (C := Try.checked) own started (by kernel_rfl) Try.func4
    (ChangeSpec.witness6 (enc := enc) (C := Try.checked) false ⟨#[], #[.agg #[.slice none 0 0, .int .i64 0, .int .i64 0, .string ByteArray.empty]], []⟩ 8 (by kernel_rfl) (by kernel_rfl) (by kernel_rfl) (by kernel_rfl)) ?_
  intro W base args ds gs before hval0 hW hcnd _
  have hval : ∀ (j : Nat) t v, Try.f4.params[j]? = some t → args[j]? = some v → Value.okWide Try.prog W .any base t v := hval0
  have hW' := hW
  obtain ⟨p, q, hA0, hV, rfl, hfz, hnd⟩ := hW
  have hA : DataW.TrodAll enc Try.prog W 0 (fun _ => true) true Try.f4.params.toList args.toList ds p := hA0
  rw [Try.params4] at hA hval
  obtain ⟨v0, vs0, d0, ds0, p0, q0, hargs, rfl, rfl, h0, r0⟩ := trodAll_cons hA
  obtain ⟨rfl, rfl, rfl⟩ := trodAll_nil r0
  obtain rfl : args = #[v0] := by cases args; simp_all
  obtain ⟨rfl, rfl⟩ := trodVars_none hV
  have k0 := h0
  have lt0 : ∀ x ∈ p0, x.block < W.heap.size := by obtain ⟨m, hm⟩ := k0; exact DataW.trod_lt m _ _ _ hm
  obtain ⟨x0, l0, r0, c0, e0, rfl, n0, z0, s0, y0, i0, j0⟩ := ls.patch_open (hval 0 27 v0 rfl rfl) h0
  clear hA0 hval0
  simp only [List.append_nil] at hW'
  refine (walk W x0 l0 n0 z0 s0 r0 c0 e0 y0 i0 j0).mono fun e W' ⟨he, bel⟩ => ?_
  subst he
  exact ⟨_, rfl, _, _, _, [], _, [], hW', trodAll_mk1 (shut_bool Try.underlying4 _), (trodAll_cons_mk (Below.trod laidOut (by kernel_rfl) (of_decide_eq_true (by kernel_rfl)) k0 bel lt0) trodAll_mk0), rfl, bel.frame _, fun h => by cases h⟩

theorem over : Rows.fnExactPatchBytesRow.holds Try.pinned (OpenSpec.ofChange Rows.fnExactPatchBytesSpec) :=
  OpenClaim.holds_of_wide 4 Try.f4 rfl rfl rfl rfl rfl rfl rfl ⟨rfl, rfl, rfl, rfl, rfl⟩ rfl rfl rfl rfl rfl (by kernel_rfl) Try.func4 (by kernel_rfl)
    (of_decide_eq_true (by kernel_rfl)) (by unfold Func.isWrapper; first | (rw [if_pos (by decide +kernel)]; kernel_rfl) | (rw [if_neg (by decide +kernel)]; exact ⟨rfl, rfl⟩))
    (fun os started H enc _ => lifted os started H enc)

theorem proved : Rows.FnExactPatchBytesSaid :=
  over
#print axioms proved
end Go.Proofs.Ytikkohecanmefab.fnExactPatchBytes
