/-
  What errors.Is answers where a variable of the package is sought: of itself true; of none, of another one and of a byteFault false. Condition: the two are not the same, and lie in rows of their own.
  The program's errors of chapter 5: which variables hold them, and the code that whyCode tells of each. Condition: the four variables hold four errors of their own, errors.errorType the handle of the type error.
-/
import Derived.Test.YtgchjinbnlclnaaGreatDoorAs
namespace Go.Proofs.YtgchjinbnlclnaaGreatDoor.ei
open Go.RowKit Go.Extern.Stop Go.Stop Go.Extern
set_option linter.unusedVariables false

/-- reflectlite's Comparable -/
def compM : Array Value → Sem Value := Extern.ReflectliteType.method fun t => do Extern.Rtype.noPackHeld "Comparable" t; pure (.bool (← typeInfo t).comparable)
theorem isTypeOf (v : Value) (w : World) : (Extern.ReflectliteType.typeOf #[.iface 148 v]).run Tryz.prog w = .ok (.iface 101 (.agg #[.pointer (some ⟨7, 148, none⟩)])) w := by kernel_rfl
theorem isComparable (w : World) : (compM #[.agg #[.pointer (some ⟨7, 148, none⟩)]]).run Tryz.prog w = .ok (.bool true) w := by kernel_rfl
theorem isMethodComparable (v : Value) (w : World) : (Go.method 281 101 v "Comparable").run Tryz.prog w = .ok (113, v) w := by kernel_rfl
theorem isComp : (Tryz.prog.info? 148).map (·.comparable) = some true := by kernel_rfl
theorem isSize : (Tryz.prog.info? 169).map (·.size) = some 1 := by kernel_rfl
theorem noIsE (v : Value) (xT : TypeId) (w : World) : (Instr.typeAssert (.iface 148 v) xT 103 true).run Tryz.prog w = .ok (.tuple #[.nilIface, .bool false]) w := run_typeAssert_lacksB Tryz.underlying103 (by kernel_rfl) (by kernel_rfl) v xT w
theorem noUnwrapE (v : Value) (xT : TypeId) (w : World) : (Instr.typeAssert (.iface 148 v) xT 106 true).run Tryz.prog w = .ok (.tuple #[.nilIface, .bool false]) w := run_typeAssert_lacksB Tryz.underlying106 (by kernel_rfl) (by kernel_rfl) v xT w
theorem noUnwrapsE (v : Value) (xT : TypeId) (w : World) : (Instr.typeAssert (.iface 148 v) xT 108 true).run Tryz.prog w = .ok (.tuple #[.nilIface, .bool false]) w := run_typeAssert_lacksB Tryz.underlying108 (by kernel_rfl) (by kernel_rfl) v xT w
theorem noIsF (v : Value) (xT : TypeId) (w : World) : (Instr.typeAssert (.iface 78 v) xT 103 true).run Tryz.prog w = .ok (.tuple #[.nilIface, .bool false]) w := run_typeAssert_lacksB Tryz.underlying103 (by kernel_rfl) (by kernel_rfl) v xT w
theorem noUnwrapF (v : Value) (xT : TypeId) (w : World) : (Instr.typeAssert (.iface 78 v) xT 106 true).run Tryz.prog w = .ok (.tuple #[.nilIface, .bool false]) w := run_typeAssert_lacksB Tryz.underlying106 (by kernel_rfl) (by kernel_rfl) v xT w
theorem noUnwrapsF (v : Value) (xT : TypeId) (w : World) : (Instr.typeAssert (.iface 78 v) xT 108 true).run Tryz.prog w = .ok (.tuple #[.nilIface, .bool false]) w := run_typeAssert_lacksB Tryz.underlying108 (by kernel_rfl) (by kernel_rfl) v xT w

theorem is_same (a : Addr) (w : World) :
    Calls Tryz.prog 48 #[.iface 148 (.pointer (some a)), .iface 148 (.pointer (some a))] w fun e w' => e = .returned (.bool true) ∧ w' = w := by
  obtain ⟨i, hi, hcmp⟩ := Option.map_eq_some_iff.1 isComp
  obtain ⟨j, hj, hjs⟩ := Option.map_eq_some_iff.1 isSize
  have h8 := @run_callFunc_extern Tryz.prog 58 _ Extern.ReflectliteType.typeOf Tryz.func58 (by kernel_rfl) (by kernel_rfl) (by kernel_rfl) (by kernel_rfl)
  have h32 := @run_callFunc_extern Tryz.prog 113 _ compM Tryz.func113 (by kernel_rfl) (by kernel_rfl) (by kernel_rfl) (by kernel_rfl)
  have tT := isTypeOf
  have cT := isComparable
  have mR := isMethodComparable
  have heq := run_eql_iface_ptr_same (P := Tryz.prog) w a Tryz.underlying52 Tryz.underlying148 hi hcmp hj
  go_enter Tryz.func48, Tryz.ntmps48
  go_wp2
  refine wp_loop_rounds 1 ?_
  rw [rounds_succ]
  go_wp2
  go_ret
  exact ⟨rfl, rfl⟩

theorem is_nil (b : Addr) (w : World) :
    Calls Tryz.prog 48 #[.nilIface, .iface 148 (.pointer (some b))] w fun e w' => e = .returned (.bool false) ∧ w' = w := by
  have hn := run_eql_iface_nil_left (P := Tryz.prog) w 148 (.pointer (some b)) Tryz.underlying52
  go_enter Tryz.func48, Tryz.ntmps48
  go_wp2
  go_ret
  exact ⟨rfl, rfl⟩

theorem is_other (a b : Addr) (ca cb : Array Value) (ta tb : TypeId) (w : World) (hne : a ≠ b) (ha : w.heap[a.block]? = some (.cells ca ta (0, 0))) (hb : w.heap[b.block]? = some (.cells cb tb (0, 0))) :
    Calls Tryz.prog 48 #[.iface 148 (.pointer (some a)), .iface 148 (.pointer (some b))] w fun e w' => e = .returned (.bool false) ∧ w' = w := by
  obtain ⟨i, hi, hcmp⟩ := Option.map_eq_some_iff.1 isComp
  obtain ⟨j, hj, hjs⟩ := Option.map_eq_some_iff.1 isSize
  have h8 := @run_callFunc_extern Tryz.prog 58 _ Extern.ReflectliteType.typeOf Tryz.func58 (by kernel_rfl) (by kernel_rfl) (by kernel_rfl) (by kernel_rfl)
  have h32 := @run_callFunc_extern Tryz.prog 113 _ compM Tryz.func113 (by kernel_rfl) (by kernel_rfl) (by kernel_rfl) (by kernel_rfl)
  have tT := isTypeOf
  have cT := isComparable
  have mR := isMethodComparable
  have nE := noIsE
  have uE := noUnwrapE
  have vE := noUnwrapsE
  have heq := run_eql_iface_ptr_other (P := Tryz.prog) w Tryz.underlying52 Tryz.underlying148 hi hcmp hj (by rw [hjs]; decide) hne ha hb
  go_enter Tryz.func48, Tryz.ntmps48
  go_wp2
  refine wp_loop_rounds 1 ?_
  rw [rounds_succ]
  go_wp2
  go_ret
  exact ⟨rfl, rfl⟩

theorem is_fault (c : Int) (b : Addr) (w : World) :
    Calls Tryz.prog 48 #[.iface 78 (.agg #[.int .i64 c]), .iface 148 (.pointer (some b))] w fun e w' => e = .returned (.bool false) ∧ w' = w := by
  have h8 := @run_callFunc_extern Tryz.prog 58 _ Extern.ReflectliteType.typeOf Tryz.func58 (by kernel_rfl) (by kernel_rfl) (by kernel_rfl) (by kernel_rfl)
  have h32 := @run_callFunc_extern Tryz.prog 113 _ compM Tryz.func113 (by kernel_rfl) (by kernel_rfl) (by kernel_rfl) (by kernel_rfl)
  have tT := isTypeOf
  have cT := isComparable
  have mR := isMethodComparable
  have nF := noIsF
  have uF := noUnwrapF
  have vF := noUnwrapsF
  have hty := run_eql_iface_types (P := Tryz.prog) 78 148 (.agg #[.int .i64 c]) (.pointer (some b)) Tryz.underlying52 (by decide) w
  go_enter Tryz.func48, Tryz.ntmps48
  go_wp2
  refine wp_loop_rounds 1 ?_
  rw [rounds_succ]
  go_wp2
  go_ret
  exact ⟨rfl, rfl⟩
end Go.Proofs.YtgchjinbnlclnaaGreatDoor.ei

namespace Go.Proofs.YtgchjinbnlclnaaGreatDoor.ei
open Go.RowKit Go.Extern.Stop Go.Stop Go.Extern
set_option linter.unusedVariables false

/-- four errors in four variables: where they lie -/
structure Errs (w : World) (a b c d : Addr) : Prop where
  va : w.cell? ⟨0, 0, none⟩ = some (.iface 148 (.pointer (some a)))
  vb : w.cell? ⟨1, 0, none⟩ = some (.iface 148 (.pointer (some b)))
  vc : w.cell? ⟨2, 0, none⟩ = some (.iface 148 (.pointer (some c)))
  vd : w.cell? ⟨3, 0, none⟩ = some (.iface 148 (.pointer (some d)))
  ra : ∃ x t, w.heap[a.block]? = some (.cells x t (0, 0))
  rb : ∃ x t, w.heap[b.block]? = some (.cells x t (0, 0))
  rc : ∃ x t, w.heap[c.block]? = some (.cells x t (0, 0))
  rd : ∃ x t, w.heap[d.block]? = some (.cells x t (0, 0))
  ab : a ≠ b
  ac : a ≠ c
  ad : a ≠ d
  bc : b ≠ c
  bd : b ≠ d
  cd : c ≠ d
  laid : ea.Laid w

theorem row_up {w u : World} {i : Nat} (h : ∃ x t, w.heap[i]? = some (.cells x t (0, 0))) (hb : Below w.heap.size w u) : ∃ x t, u.heap[i]? = some (.cells x t (0, 0)) := by
  obtain ⟨x, t, h⟩ := h
  exact ⟨x, t, (hb.block _ (Array.getElem?_eq_some_iff.1 h).1).trans h⟩
theorem Errs.up {w u : World} {a b c d : Addr} (h : Errs w a b c d) (hb : Below w.heap.size w u) : Errs u a b c d where
  va := (hb.cell (World.block_lt_of_cell? w _ h.va)).trans h.va
  vb := (hb.cell (World.block_lt_of_cell? w _ h.vb)).trans h.vb
  vc := (hb.cell (World.block_lt_of_cell? w _ h.vc)).trans h.vc
  vd := (hb.cell (World.block_lt_of_cell? w _ h.vd)).trans h.vd
  ra := row_up h.ra hb
  rb := row_up h.rb hb
  rc := row_up h.rc hb
  rd := row_up h.rd hb
  ab := h.ab
  ac := h.ac
  ad := h.ad
  bc := h.bc
  bd := h.bd
  cd := h.cd
  laid := h.laid.below hb

theorem is_other' (a b : Addr) (w : World) (hne : a ≠ b) (ha : ∃ x t, w.heap[a.block]? = some (.cells x t (0, 0))) (hb : ∃ x t, w.heap[b.block]? = some (.cells x t (0, 0))) :
    Calls Tryz.prog 48 #[.iface 148 (.pointer (some a)), .iface 148 (.pointer (some b))] w fun e w' => e = .returned (.bool false) ∧ w' = w := by
  obtain ⟨x, t, ha⟩ := ha
  obtain ⟨y, s, hb⟩ := hb
  exact is_other a b x y t s w hne ha hb

theorem why_a {w : World} {a b c d : Addr} (h : Errs w a b c d) :
    Calls Tryz.prog 29 #[.iface 148 (.pointer (some a))] w fun e w' => e = .returned (.int .i64 1) ∧ w' = w := by
  have va := h.va
  go_enter Tryz.func29, Tryz.ntmps29
  go_wp2_with (go_at_call 48; (with_reducible refine (is_same _ _).mono ?_); rintro r w' ⟨rfl, hw'⟩; obtain rfl := hw'.symm)
  go_ret
  exact ⟨rfl, rfl⟩
theorem why_b {w : World} {a b c d : Addr} (h : Errs w a b c d) :
    Calls Tryz.prog 29 #[.iface 148 (.pointer (some b))] w fun e w' => e = .returned (.int .i64 3) ∧ w' = w := by
  have va := h.va
  have vb := h.vb
  have H1 := is_other' b a w h.ab.symm h.rb h.ra
  go_enter Tryz.func29, Tryz.ntmps29
  go_wp2_with (go_at_call 48; (first | (with_reducible refine (is_same _ _).mono ?_) | (with_reducible refine H1.mono ?_)); rintro r w' ⟨rfl, hw'⟩; obtain rfl := hw'.symm)
  go_ret
  exact ⟨rfl, rfl⟩
theorem why_c {w : World} {a b c d : Addr} (h : Errs w a b c d) :
    Calls Tryz.prog 29 #[.iface 148 (.pointer (some c))] w fun e w' => e = .returned (.int .i64 12) ∧ w' = w := by
  have va := h.va
  have vb := h.vb
  have vc := h.vc
  have H1 := is_other' c a w h.ac.symm h.rc h.ra
  have H2 := is_other' c b w h.bc.symm h.rc h.rb
  go_enter Tryz.func29, Tryz.ntmps29
  go_wp2_with (go_at_call 48; (first | (with_reducible refine (is_same _ _).mono ?_) | (with_reducible refine H1.mono ?_) | (with_reducible refine H2.mono ?_)); rintro r w' ⟨rfl, hw'⟩; obtain rfl := hw'.symm)
  go_ret
  exact ⟨rfl, rfl⟩
theorem why_d {w : World} {a b c d : Addr} (h : Errs w a b c d) :
    Calls Tryz.prog 29 #[.iface 148 (.pointer (some d))] w fun e w' => e = .returned (.int .i64 7) ∧ w' = w := by
  have va := h.va
  have vb := h.vb
  have vc := h.vc
  have vd := h.vd
  have H1 := is_other' d a w h.ad.symm h.rd h.ra
  have H2 := is_other' d b w h.bd.symm h.rd h.rb
  have H3 := is_other' d c w h.cd.symm h.rd h.rc
  go_enter Tryz.func29, Tryz.ntmps29
  go_wp2_with (go_at_call 48; (first | (with_reducible refine (is_same _ _).mono ?_) | (with_reducible refine H1.mono ?_) | (with_reducible refine H2.mono ?_) | (with_reducible refine H3.mono ?_)); rintro r w' ⟨rfl, hw'⟩; obtain rfl := hw'.symm)
  go_ret
  exact ⟨rfl, rfl⟩
theorem why_nil {w : World} {a b c d : Addr} (h : Errs w a b c d) :
    Calls Tryz.prog 29 #[.nilIface] w fun e w' => e = .returned (.int .i64 0) ∧ Below w.heap.size w w' := by
  have va := h.va
  have vb := h.vb
  have vc := h.vc
  have vd := h.vd
  go_enter Tryz.func29, Tryz.ntmps29
  go_wp2_with (first | (go_at_call 48; (with_reducible refine (is_nil _ _).mono ?_); rintro r w' ⟨rfl, hw'⟩; obtain rfl := hw'.symm) | (go_at_call 49; (with_reducible refine (ea.codeOf_nil _).mono ?_); rintro r w' ⟨rfl, hb⟩))
  go_ret
  exact ⟨rfl, hb⟩
theorem why_fault {w : World} {a b c d : Addr} (h : Errs w a b c d) (k : Int) :
    Calls Tryz.prog 29 #[.iface 78 (.agg #[.int .i64 k])] w fun e w' => e = .returned (.int .i64 k) ∧ Below w.heap.size w w' := by
  have va := h.va
  have vb := h.vb
  have vc := h.vc
  have vd := h.vd
  have H1 := ea.codeOf_fault k w h.laid
  go_enter Tryz.func29, Tryz.ntmps29
  go_wp2_with (first | (go_at_call 48; (with_reducible refine (is_fault _ _ _).mono ?_); rintro r w' ⟨rfl, hw'⟩; obtain rfl := hw'.symm) | (go_at_call 49; (with_reducible refine H1.mono ?_); rintro r w' ⟨rfl, hb⟩))
  go_ret
  exact ⟨rfl, hb⟩
end Go.Proofs.YtgchjinbnlclnaaGreatDoor.ei
