/-
  What the card's list gives a walk: four errors lie in four package variables, no two at one place; and a world that meets it.
-/
import Derived.Test.YtgchjinbnlclnaaGreatDoorMg3
import Derived.Test.YtgchjinbnlclnaaGreatDoorLaid
import Derived.OpenVars
import Derived.Stop.LaidTwo
namespace Go.Proofs.YtgchjinbnlclnaaGreatDoor.el
open Go.ChangeShapes Go.WideShapes Go.RowKit
set_option linter.unusedVariables false

theorem own : ownKnob Tryz.prog.godebug = none := by kernel_rfl
theorem laidOut : laidOutB Tryz.prog = true := by kernel_rfl
theorem rowed : varsRowed Tryz.prog ["loop.example/g00455/impl.errNotRight", "loop.example/g00455/impl.errTooOld", "loop.example/g00455/impl.errTaken", "loop.example/g00455/impl.errNoGram"] = true := by kernel_rfl
theorem gA : Tryz.prog.globalNamed "loop.example/g00455/impl.errNotRight" = some 0 := by kernel_rfl
theorem gB : Tryz.prog.globalNamed "loop.example/g00455/impl.errNoGram" = some 1 := by kernel_rfl
theorem gC : Tryz.prog.globalNamed "loop.example/g00455/impl.errTooOld" = some 2 := by kernel_rfl
theorem gD : Tryz.prog.globalNamed "loop.example/g00455/impl.errTaken" = some 3 := by kernel_rfl
theorem tA : (Tryz.prog.globals[0]?).map (·.type) = some 52 := by kernel_rfl
theorem tB : (Tryz.prog.globals[1]?).map (·.type) = some 52 := by kernel_rfl
theorem tC : (Tryz.prog.globals[2]?).map (·.type) = some 52 := by kernel_rfl
theorem tD : (Tryz.prog.globals[3]?).map (·.type) = some 52 := by kernel_rfl
theorem star : "*" ++ "errors.errorString" = "*errors.errorString" := by decide
theorem rowE (u : TypeId) (h : Tryz.prog.typeName? 3 u = some "*errors.errorString") : u = 148 :=
  typeName_ptr_named (nm := "errors.errorString") (by rw [star]; kernel_rfl) (by kernel_rfl) (by decide) u (by rw [star]; exact h)
theorem cE : Tryz.prog.cellsOf 169 = 1 := by kernel_rfl
theorem cS : Tryz.prog.cellsOf 9 = 1 := by kernel_rfl
/-- the list without its second -/
theorem skip {P : Program} {x y : String × DataW Unit} {r : List (String × DataW Unit)} {W : World} (h : laidMet P (x :: y :: r) W) : laidMet P (x :: r) W := by
  obtain ⟨n, d⟩ := x
  obtain ⟨m, e⟩ := y
  obtain ⟨ps, ⟨g, t, cs, fuel, p, q, h1, h2, h3, h4, ⟨g', t', cs', fuel', p', q', k1, k2, k3, k4, k5, k6⟩, h6⟩, hn, hall⟩ := h
  subst k6
  subst h6
  refine ⟨_ ++ p ++ q', ⟨g, t, cs, fuel, p, q', h1, h2, h3, h4, k5, rfl⟩, List.Nodup.sublist (List.Sublist.append_left (List.sublist_append_right _ _) _) hn, fun b off hm => hall b off ?_⟩
  rcases List.mem_append.1 hm with hm | hm
  · exact List.mem_append_left _ hm
  · exact List.mem_append_right _ (List.mem_append_right _ hm)
theorem same {P : Program} {W : World} {n : String} {a b : Addr} {t : TypeId} (h : W.var? P n = some #[.iface t (.pointer (some a))]) (k : W.var? P n = some #[.iface t (.pointer (some b))]) : b = a := by
  rw [h] at k
  simpa using k.symm
/-- four on the list: four places -/
theorem errs_of {W : World} {r : List (String × DataW Unit)} (h : laidMet Tryz.prog (("loop.example/g00455/impl.errNotRight", Rows.laid_loop_example_g00455_impl_errNotRight) :: ("loop.example/g00455/impl.errNoGram", Rows.laid_loop_example_g00455_impl_errNoGram) :: ("loop.example/g00455/impl.errTooOld", Rows.laid_loop_example_g00455_impl_errTooOld) :: ("loop.example/g00455/impl.errTaken", Rows.laid_loop_example_g00455_impl_errTaken) :: r) W) (hl : ea.Laid W) :
    ∃ a b c d, ei.Errs W a b c d := by
  obtain ⟨a, b, _, _, ca, cb, ta, tb, va, vb, _, _, _, _, _, _, ab, ra, rb⟩ := laid_sentinels2 h gA tA gB tB Tryz.underlying52 rowE Tryz.underlying148 Tryz.underlying169 rfl rfl Tryz.underlying9 cE cS
  obtain ⟨a1, c, _, _, _, cc, _, tc, va1, vc, _, _, _, _, _, _, ac, _, rc⟩ := laid_sentinels2 (skip h) gA tA gC tC Tryz.underlying52 rowE Tryz.underlying148 Tryz.underlying169 rfl rfl Tryz.underlying9 cE cS
  obtain ⟨a2, d, _, _, _, cd, _, td, va2, vd, _, _, _, _, _, _, ad, _, rd⟩ := laid_sentinels2 (skip (skip h)) gA tA gD tD Tryz.underlying52 rowE Tryz.underlying148 Tryz.underlying169 rfl rfl Tryz.underlying9 cE cS
  obtain ⟨b1, c1, _, _, _, _, _, _, vb1, vc1, _, _, _, _, _, _, bc, _, _⟩ := laid_sentinels2 h.tail gB tB gC tC Tryz.underlying52 rowE Tryz.underlying148 Tryz.underlying169 rfl rfl Tryz.underlying9 cE cS
  obtain ⟨b2, d1, _, _, _, _, _, _, vb2, vd1, _, _, _, _, _, _, bd, _, _⟩ := laid_sentinels2 (skip h.tail) gB tB gD tD Tryz.underlying52 rowE Tryz.underlying148 Tryz.underlying169 rfl rfl Tryz.underlying9 cE cS
  obtain ⟨c2, d2, _, _, _, _, _, _, vc2, vd2, _, _, _, _, _, _, cdn, _, _⟩ := laid_sentinels2 h.tail.tail gC tC gD tD Tryz.underlying52 rowE Tryz.underlying148 Tryz.underlying169 rfl rfl Tryz.underlying9 cE cS
  obtain rfl := same va va1
  obtain rfl := same va va2
  obtain rfl := same vb vb1
  obtain rfl := same vb vb2
  obtain rfl := same vc vc1
  obtain rfl := same vc vc2
  obtain rfl := same vd vd1
  obtain rfl := same vd vd2
  exact ⟨_, _, _, _, ⟨by simpa using World.var?_cell gA va 0, by simpa using World.var?_cell gB vb 0, by simpa using World.var?_cell gC vc 0, by simpa using World.var?_cell gD vd 0, ⟨_, _, ra⟩, ⟨_, _, rb⟩, ⟨_, _, rc⟩, ⟨_, _, rd⟩, ab, ac, ad, bc, bd, cdn, hl⟩⟩

def four : List (String × DataW Unit) := [("loop.example/g00455/impl.errNotRight", Rows.laid_loop_example_g00455_impl_errNotRight), ("loop.example/g00455/impl.errNoGram", Rows.laid_loop_example_g00455_impl_errNoGram), ("loop.example/g00455/impl.errTooOld", Rows.laid_loop_example_g00455_impl_errTooOld), ("loop.example/g00455/impl.errTaken", Rows.laid_loop_example_g00455_impl_errTaken)]
def laid : List (String × DataW Unit) := ("errors.errorType", Rows.laid_errors_errorType) :: four
def Met (w : World) : Prop := ∃ a b c d, ei.Errs w a b c d
theorem parts : (laid.filter fun x => x.2.handleName?.isNone) = four := by kernel_rfl
theorem parts2 : (laid.filter fun x => x.2.handleName?.isSome) = la.laid := by kernel_rfl
theorem handle {W : World} (h : handlesMet Tryz.prog la.laid W) : ea.Laid W := la.handle_of_laid (show laidMet Tryz.prog [] W ∧ handlesMet Tryz.prog la.laid W from ⟨laidMet_nil _ _, h⟩)
theorem met_of_laid {W : World} (h : laidMetH Tryz.prog laid W) : Met W := by
  have h' : laidMet Tryz.prog (laid.filter fun x => x.2.handleName?.isNone) W := h.1
  rw [parts] at h'
  have h2 : handlesMet Tryz.prog (laid.filter fun x => x.2.handleName?.isSome) W := h.2
  rw [parts2] at h2
  exact errs_of h' (handle h2)
/-- The door's own heap meets the condition: closed facts. -/
theorem door_met (os : Os) (args : Array Value) : laidMetH Tryz.prog laid ((World.doorLaid Tryz.prog 400 os).forCall (fun _ _ => 0) ⟨#[], args, []⟩).memory :=
  laidMetH_of_parts3 (fuel := 8) (laidMet_of_run' 8 (by kernel_rfl) (by kernel_rfl)) (by kernel_rfl) (by kernel_rfl)
end Go.Proofs.YtgchjinbnlclnaaGreatDoor.el
