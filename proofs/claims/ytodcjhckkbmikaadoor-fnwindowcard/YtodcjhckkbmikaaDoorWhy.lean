/-
  The program's errors of chapter 5: which variables hold them, and the code that whyCode tells of each. Condition: the four variables hold four errors of their own, errors.errorType the handle of the type error.
-/
import Derived.Test.YtodcjhckkbmikaaDoorIs
namespace Go.Proofs.YtodcjhckkbmikaaDoor.ei
open Go.RowKit Go.Extern.Stop Go.Stop Go.Extern
set_option linter.unusedVariables false

/-- four errors in four variables: where they lie -/
structure Errs (w : World) (a b c d : Addr) : Prop where
  va : w.cell? ⟨0, 0, none⟩ = some (.iface 124 (.pointer (some a)))
  vb : w.cell? ⟨3, 0, none⟩ = some (.iface 124 (.pointer (some b)))
  vc : w.cell? ⟨1, 0, none⟩ = some (.iface 124 (.pointer (some c)))
  vd : w.cell? ⟨2, 0, none⟩ = some (.iface 124 (.pointer (some d)))
  ra : ∃ x t, w.heap[a.block]? = some (.cells x t (0, 0))
  rb : ∃ x t, w.heap[b.block]? = some (.cells x t (0, 0))
  rc : ∃ x t, w.heap[c.block]? = some (.cells x t (0, 0))
  rd : ∃ x t, w.heap[d.block]? = some (.cells x t (0, 0))
  ab : a ≠ b
  ac : a ≠ c
  ad : a ≠ d
  bc : b ≠ c
  bd : b ≠ d
  cd : c ≠ d
  laid : ea.Laid w

theorem row_up {w u : World} {i : Nat} (h : ∃ x t, w.heap[i]? = some (.cells x t (0, 0))) (hb : Below w.heap.size w u) : ∃ x t, u.heap[i]? = some (.cells x t (0, 0)) := by
  obtain ⟨x, t, h⟩ := h
  exact ⟨x, t, (hb.block _ (Array.getElem?_eq_some_iff.1 h).1).trans h⟩
theorem Errs.up {w u : World} {a b c d : Addr} (h : Errs w a b c d) (hb : Below w.heap.size w u) : Errs u a b c d where
  va := (hb.cell (World.block_lt_of_cell? w _ h.va)).trans h.va
  vb := (hb.cell (World.block_lt_of_cell? w _ h.vb)).trans h.vb
  vc := (hb.cell (World.block_lt_of_cell? w _ h.vc)).trans h.vc
  vd := (hb.cell (World.block_lt_of_cell? w _ h.vd)).trans h.vd
  ra := row_up h.ra hb
  rb := row_up h.rb hb
  rc := row_up h.rc hb
  rd := row_up h.rd hb
  ab := h.ab
  ac := h.ac
  ad := h.ad
  bc := h.bc
  bd := h.bd
  cd := h.cd
  laid := h.laid.below hb

theorem is_other' (a b : Addr) (w : World) (hne : a ≠ b) (ha : ∃ x t, w.heap[a.block]? = some (.cells x t (0, 0))) (hb : ∃ x t, w.heap[b.block]? = some (.cells x t (0, 0))) :
    Calls Tryd.prog 29 #[.iface 124 (.pointer (some a)), .iface 124 (.pointer (some b))] w fun e w' => e = .returned (.bool false) ∧ w' = w := by
  obtain ⟨x, t, ha⟩ := ha
  obtain ⟨y, s, hb⟩ := hb
  exact is_other a b x y t s w hne ha hb

theorem why_a {w : World} {a b c d : Addr} (h : Errs w a b c d) :
    Calls Tryd.prog 17 #[.iface 124 (.pointer (some a))] w fun e w' => e = .returned (.int .i64 1) ∧ w' = w := by
  have va := h.va
  go_enter Tryd.func17, Tryd.ntmps17
  go_wp2_with (go_at_call 29; (with_reducible refine (is_same _ _).mono ?_); rintro r w' ⟨rfl, hw'⟩; obtain rfl := hw'.symm)
  go_ret
  exact ⟨rfl, rfl⟩
theorem why_b {w : World} {a b c d : Addr} (h : Errs w a b c d) :
    Calls Tryd.prog 17 #[.iface 124 (.pointer (some b))] w fun e w' => e = .returned (.int .i64 3) ∧ w' = w := by
  have va := h.va
  have vb := h.vb
  have H1 := is_other' b a w h.ab.symm h.rb h.ra
  go_enter Tryd.func17, Tryd.ntmps17
  go_wp2_with (go_at_call 29; (first | (with_reducible refine (is_same _ _).mono ?_) | (with_reducible refine H1.mono ?_)); rintro r w' ⟨rfl, hw'⟩; obtain rfl := hw'.symm)
  go_ret
  exact ⟨rfl, rfl⟩
theorem why_c {w : World} {a b c d : Addr} (h : Errs w a b c d) :
    Calls Tryd.prog 17 #[.iface 124 (.pointer (some c))] w fun e w' => e = .returned (.int .i64 12) ∧ w' = w := by
  have va := h.va
  have vb := h.vb
  have vc := h.vc
  have H1 := is_other' c a w h.ac.symm h.rc h.ra
  have H2 := is_other' c b w h.bc.symm h.rc h.rb
  go_enter Tryd.func17, Tryd.ntmps17
  go_wp2_with (go_at_call 29; (first | (with_reducible refine (is_same _ _).mono ?_) | (with_reducible refine H1.mono ?_) | (with_reducible refine H2.mono ?_)); rintro r w' ⟨rfl, hw'⟩; obtain rfl := hw'.symm)
  go_ret
  exact ⟨rfl, rfl⟩
theorem why_d {w : World} {a b c d : Addr} (h : Errs w a b c d) :
    Calls Tryd.prog 17 #[.iface 124 (.pointer (some d))] w fun e w' => e = .returned (.int .i64 7) ∧ w' = w := by
  have va := h.va
  have vb := h.vb
  have vc := h.vc
  have vd := h.vd
  have H1 := is_other' d a w h.ad.symm h.rd h.ra
  have H2 := is_other' d b w h.bd.symm h.rd h.rb
  have H3 := is_other' d c w h.cd.symm h.rd h.rc
  go_enter Tryd.func17, Tryd.ntmps17
  go_wp2_with (go_at_call 29; (first | (with_reducible refine (is_same _ _).mono ?_) | (with_reducible refine H1.mono ?_) | (with_reducible refine H2.mono ?_) | (with_reducible refine H3.mono ?_)); rintro r w' ⟨rfl, hw'⟩; obtain rfl := hw'.symm)
  go_ret
  exact ⟨rfl, rfl⟩
theorem why_nil {w : World} {a b c d : Addr} (h : Errs w a b c d) :
    Calls Tryd.prog 17 #[.nilIface] w fun e w' => e = .returned (.int .i64 0) ∧ Below w.heap.size w w' := by
  have va := h.va
  have vb := h.vb
  have vc := h.vc
  have vd := h.vd
  go_enter Tryd.func17, Tryd.ntmps17
  go_wp2_with (first | (go_at_call 29; (with_reducible refine (is_nil _ _).mono ?_); rintro r w' ⟨rfl, hw'⟩; obtain rfl := hw'.symm) | (go_at_call 30; (with_reducible refine (ea.codeOf_nil _).mono ?_); rintro r w' ⟨rfl, hb⟩))
  go_ret
  exact ⟨rfl, hb⟩
theorem why_fault {w : World} {a b c d : Addr} (h : Errs w a b c d) (k : Int) :
    Calls Tryd.prog 17 #[.iface 72 (.agg #[.int .i64 k])] w fun e w' => e = .returned (.int .i64 k) ∧ Below w.heap.size w w' := by
  have va := h.va
  have vb := h.vb
  have vc := h.vc
  have vd := h.vd
  have H1 := ea.codeOf_fault k w h.laid
  go_enter Tryd.func17, Tryd.ntmps17
  go_wp2_with (first | (go_at_call 29; (with_reducible refine (is_fault _ _ _).mono ?_); rintro r w' ⟨rfl, hw'⟩; obtain rfl := hw'.symm) | (go_at_call 30; (with_reducible refine H1.mono ?_); rintro r w' ⟨rfl, hb⟩))
  go_ret
  exact ⟨rfl, hb⟩
end Go.Proofs.YtodcjhckkbmikaaDoor.ei
