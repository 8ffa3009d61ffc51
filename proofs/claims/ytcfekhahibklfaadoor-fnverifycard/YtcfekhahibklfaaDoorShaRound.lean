/-
  The program's one round of the digest: for eight numbers of 32 bits and one more it hands back the next eight; no old block turns.
-/
import Derived.Test.YtcfekhahibklfaaDoorShaPlain
import Derived.Deep.MidRow
import Derived.BigRegion
import Derived.BigQuiet
import Derived.Deep.QuietTactic
import Derived.WalkSpells
import Derived.WalkSmall
import Derived.Laws.Tables
import Derived.Laws.CopyOwn
namespace Go.Proofs.YtcfekhahibklfaaDoor.sh
open Go.ChangeShapes Go.WideShapes Go.ChangeAt Go.RowKit
set_option linter.unusedVariables false

set_option maxHeartbeats 1000000 in
theorem rot_any (x : Int) (k : Nat) (w : World) (hk : 0 < k ∧ k < 32) (hx : U x) :
    Calls Tryd.prog 92 #[.int .u32 x, .int .i64 (-(k : Int))] w fun e w' => e = .returned (.int .u32 (rotr k x)) ∧ w' = w := by
  have e1 : bits BinOp.and IntKind.u64 (IntKind.u64.wrap (-(k : Int))) 31 = 32 - (k : Int) := by
    obtain ⟨h0, h1⟩ := hk
    have : ∀ k : Fin 32, 0 < k.val → bits BinOp.and IntKind.u64 (IntKind.u64.wrap (-(k.val : Int))) 31 = 32 - (k.val : Int) := by decide
    exact this ⟨k, h1⟩ h0
  go_enter Tryd.func92, Tryd.ntmps92
  go_wp2
  go_ret
  refine ⟨congrArg (fun y => Ending.returned (.int .u32 y)) ?_, rfl⟩
  unfold rotr wr
  rw [IntKind.wrap_u32, show 32 - (32 - k) = k by omega]

set_option maxHeartbeats 1000000 in
theorem right_any (x : Int) (k : Nat) (w : World) (hk : 0 < k ∧ k < 32) (hx : U x) :
    Calls Tryd.prog 91 #[.int .u32 x, .int .i64 (k : Int)] w fun e w' => e = .returned (.int .u32 (rotr k x)) ∧ w' = w := by
  go_enter Tryd.func91, Tryd.ntmps91
  go_wp2_with (go_at_call 92; refine (rot_any _ _ _ hk hx).mono ?_; rintro e w' ⟨rfl, rfl⟩)
  go_ret
  exact ⟨rfl, rfl⟩

/-- the world behind a step, of which only this is kept -/
theorem wp_world {P : Program} {c : Code} {Q : Exit → Act → World → Prop} {a : Act} {w : World} (I : World → Prop) (hI : I w) (h : ∀ u, I u → c.wp P Q a u) : c.wp P Q a w := h w hI
theorem cells8 {w : World} {p : Nat} {c0 c1 c2 c3 c4 c5 c6 c7 : Value} {t : TypeId} (h : w.heap[p]? = some (.cells #[c0, c1, c2, c3, c4, c5, c6, c7] t (0, 0))) :
    w.cell? ⟨p, 0, none⟩ = some c0 ∧ w.cell? ⟨p, 1, none⟩ = some c1 ∧ w.cell? ⟨p, 2, none⟩ = some c2 ∧ w.cell? ⟨p, 3, none⟩ = some c3 ∧ w.cell? ⟨p, 4, none⟩ = some c4 ∧ w.cell? ⟨p, 5, none⟩ = some c5 ∧ w.cell? ⟨p, 6, none⟩ = some c6 ∧ w.cell? ⟨p, 7, none⟩ = some c7 := by
  refine ⟨?_, ?_, ?_, ?_, ?_, ?_, ?_, ?_⟩ <;> simp [World.cell?, h]

theorem ret_ae {a a' e e' : Int} {b c d f g h : Value} (h0 : a = a') (h1 : e = e') : Ending.returned (.agg #[.int .u32 a, b, c, d, .int .u32 e, f, g, h]) = .returned (.agg #[.int .u32 a', b, c, d, .int .u32 e', f, g, h]) := by rw [h0, h1]

set_option maxHeartbeats 4000000 in
theorem round_any (s : St) (x : Int) (w : World) (hs : s.ok) (hx : U x) :
    Calls Tryd.prog 90 #[.agg s.vals.toArray, .int .u32 x] w fun e w' => e = .returned (.agg (s.round x).vals.toArray) ∧ Below w.heap.size w w' := by
  obtain ⟨a, b, c, d, e, f, g, h⟩ := s
  obtain ⟨ha, hb, hc, hd, he, hf, hg, hh⟩ := hs
  simp only [St.vals] at *
  go_enter Tryd.func90, Tryd.ntmps90
  go_wp2_with (go_at_call 91; refine (right_any _ _ _ ⟨by decide, by decide⟩ ‹_›).mono ?_; rintro e w' ⟨rfl, rfl⟩)
  refine wp_world (fun u => Below w.heap.size w u ∧ u.heap[w.heap.size]? = some (.cells #[.int .u32 a, .int .u32 b, .int .u32 c, .int .u32 d, .int .u32 e, .int .u32 f, .int .u32 g, .int .u32 h] 115 (0, 0)) ∧ u.heap[w.heap.size + 1]? = some (.cells #[.int .u32 0, .int .u32 0, .int .u32 0, .int .u32 0, .int .u32 0, .int .u32 0, .int .u32 0, .int .u32 0] 115 (0, 0)))
    ⟨((Below.refl _ _).alloc (Nat.le_refl _) _).alloc (((Below.refl _ _).alloc (Nat.le_refl _) _).size) _, heap_alloc2_old _ _ _, heap_alloc2_new _ _ _⟩ ?_
  rintro u ⟨hB, h0, h1⟩
  have HB : Hid (Below w.heap.size w u) := hB
  have H1 : Hid (u.heap[w.heap.size + 1]? = some (.cells #[.int .u32 0, .int .u32 0, .int .u32 0, .int .u32 0, .int .u32 0, .int .u32 0, .int .u32 0, .int .u32 0] 115 (0, 0))) := h1
  obtain ⟨c0, c1, c2, c3, c4, c5, c6, c7⟩ := cells8 h0
  clear h0 h1 hB
  go_quiet (fail)
  go_wp2_with (first | (go_at_call 91; refine (right_any _ _ _ ⟨by decide, by decide⟩ ‹_›).mono ?_; rintro e w' ⟨rfl, rfl⟩) | (refine wpList_store_row rfl 115 _ _ rfl (w.heap.size + 1) _ rfl rfl _ _ H1.out (by kernel_rfl) (by rfl) (by simp [Value.oneCell']) ?_))
  refine bodyPost_ret (results_cell_row Tryd.results90 _ _ (w.heap.size + 1) _ _ _ _ rfl (setRow_heap _ _ _ _ _ _ H1.out) Tryd.underlying115 rfl (by kernel_rfl)) rfl ⟨?_, below_setRow (below_drewN HB.out _) (by omega) _⟩
  refine ret_ae ?_ ?_
  · simp only [St.round, t1, t2, wr, IntKind.wrap_u32, S0, S1, ch, maj, neg, xor, and]
    omega
  · simp only [St.round, t1, t2, wr, IntKind.wrap_u32, S0, S1, ch, maj, neg, xor, and]
    omega
theorem round_lit (s : St) (x : Int) (w : World) (hs : s.ok) (hx : U x) :
    Calls Tryd.prog 90 #[.agg #[.int .u32 s.a, .int .u32 s.b, .int .u32 s.c, .int .u32 s.d, .int .u32 s.e, .int .u32 s.f, .int .u32 s.g, .int .u32 s.h], .int .u32 x] w fun e w' => ∃ r : St, Hid (r = s.round x) ∧ e = .returned (.agg #[.int .u32 r.a, .int .u32 r.b, .int .u32 r.c, .int .u32 r.d, .int .u32 r.e, .int .u32 r.f, .int .u32 r.g, .int .u32 r.h]) ∧ Below w.heap.size w w' :=
  (round_any s x w hs hx).mono fun e w' ⟨h1, h2⟩ => ⟨_, rfl, h1, h2⟩
end Go.Proofs.YtcfekhahibklfaaDoor.sh
