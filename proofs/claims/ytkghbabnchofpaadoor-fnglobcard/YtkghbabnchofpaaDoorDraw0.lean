/-
  The bytes that are drawn from: a source, a number, one of so many. No condition.
-/
import Derived.Test.YtkghbabnchofpaaDoorRows
import Derived.WalkKit
import Derived.ProofKit
import Derived.OpenShut
import Derived.ShutString
import Derived.WalkLawsBesides
import Derived.Laws.BytesArg
import Derived.Laws.BitsAllLaws
import Derived.BigRegion
import Derived.BigQuiet
import Derived.Deep.QuietTactic
import Derived.WalkSpells
import Derived.Laws.IdiomStrings
namespace Go.Proofs.YtkghbabnchofpaaDoor.dr
open Go.ChangeShapes Go.WideShapes Go.ChangeAt Go.RowKit
set_option linter.unusedVariables false

/-- the bytes that are drawn from -/
def Codes (w : World) (B : Nat) (a : Option Addr) (len : Nat) : Prop :=
  len ≤ 1048576 ∧ (len = 0 ∨ ∃ b off, a = some ⟨b, off, none⟩ ∧ b < B ∧ ∀ i, i < len → ∃ z : Int, w.cell? ⟨b, off + i, none⟩ = some (.int .u8 z) ∧ 0 ≤ z ∧ z ≤ 255)
theorem Codes.below {w w' : World} {B : Nat} {a : Option Addr} {len : Nat} (h : Codes w B a len) (hb : Below B w w') : Codes w' B a len := by
  obtain ⟨hl, h0 | ⟨b, off, e, hB, hc⟩⟩ := h
  · exact ⟨hl, Or.inl h0⟩
  · refine ⟨hl, Or.inr ⟨b, off, e, hB, fun i hi => ?_⟩⟩
    obtain ⟨z, h1, h2⟩ := hc i hi
    exact ⟨z, by rw [hb.cell (p := ⟨b, off + i, none⟩) hB]; exact h1, h2⟩

/-- a source at work: its block's four cells -/
def Src (w : World) (B p : Nat) (a : Option Addr) (len cap : Nat) : Prop :=
  B ≤ p ∧ ∃ at_ mix size : Int, w.heap[p]? = some (.cells #[.slice a len cap, .int .i64 at_, .int .u64 mix, .int .i64 size] 77 (0, 0)) ∧ 0 ≤ at_ ∧ at_ ≤ 1048576 ∧ 0 ≤ mix ∧ mix ≤ 18446744073709551615 ∧ 0 ≤ size ∧ size ≤ 12

theorem cells4 {w : World} {p : Nat} {c0 c1 c2 c3 : Value} {t : TypeId} (h : w.heap[p]? = some (.cells #[c0, c1, c2, c3] t (0, 0))) :
    w.cell? ⟨p, 0, none⟩ = some c0 ∧ w.cell? ⟨p, 1, none⟩ = some c1 ∧ w.cell? ⟨p, 2, none⟩ = some c2 ∧ w.cell? ⟨p, 3, none⟩ = some c3 ∧ (∀ j, w.frozen? ⟨p, j, none⟩ = false) := by
  refine ⟨by simp [World.cell?, h], by simp [World.cell?, h], by simp [World.cell?, h], by simp [World.cell?, h], fun j => ?_⟩
  simp [World.frozen?, h]

theorem set4_1 {w : World} {p : Nat} {c0 c1 c2 c3 : Value} {t : TypeId} (h : w.heap[p]? = some (.cells #[c0, c1, c2, c3] t (0, 0))) (v : Value) :
    (w.setCell ⟨p, 1, none⟩ v).heap[p]? = some (.cells #[c0, v, c2, c3] t (0, 0)) := by simp [World.setCell, Array.getElem?_modify, h]
theorem set4_2 {w : World} {p : Nat} {c0 c1 c2 c3 : Value} {t : TypeId} (h : w.heap[p]? = some (.cells #[c0, c1, c2, c3] t (0, 0))) (v : Value) :
    (w.setCell ⟨p, 2, none⟩ v).heap[p]? = some (.cells #[c0, c1, v, c3] t (0, 0)) := by simp [World.setCell, Array.getElem?_modify, h]
theorem set4_3 {w : World} {p : Nat} {c0 c1 c2 c3 : Value} {t : TypeId} (h : w.heap[p]? = some (.cells #[c0, c1, c2, c3] t (0, 0))) (v : Value) :
    (w.setCell ⟨p, 3, none⟩ v).heap[p]? = some (.cells #[c0, c1, c2, v] t (0, 0)) := by simp [World.setCell, Array.getElem?_modify, h]
/-- the world behind a step, of which only this is kept -/
theorem wp_world {P : Program} {c : Code} {Q : Exit → Act → World → Prop} {a : Act} {w : World} (I : World → Prop) (hI : I w) (h : ∀ u, I u → c.wp P Q a u) : c.wp P Q a w := h w hI
theorem bits_u64 (op : BinOp) (x y : Int) : 0 ≤ bits op .u64 x y ∧ bits op .u64 x y ≤ 18446744073709551615 := by
  have := wf_bits op .u64 x y
  simpa [Lit.wf, IntKind.min, IntKind.max, IntKind.signed, IntKind.bits] using this

/-- what is kept of the world: a source whose number stands at 'at_' -/
def Kept (w : World) (B p : Nat) (a : Option Addr) (len cap : Nat) (at_ size : Int) (u : World) : Prop :=
  w.grownBy u (some p) ∧ ∃ mix : Int, u.heap[p]? = some (.cells #[.slice a len cap, .int .i64 at_, .int .u64 mix, .int .i64 size] 77 (0, 0)) ∧ 0 ≤ mix ∧ mix ≤ 18446744073709551615
theorem gdrew {a w : World} {r : Option Nat} (h : a.grownBy w r) (n : Nat) : a.grownBy (w.drewN n) r := ⟨h.os, h.tape, h.output, h.size, h.block⟩
theorem gdrew1 {a w : World} {r : Option Nat} (h : a.grownBy w r) : a.grownBy w.drew r := ⟨h.os, h.tape, h.output, h.size, h.block⟩
theorem gset {a w : World} {p : Nat} (h : a.grownBy w (some p)) (i : Nat) (v : Value) : a.grownBy (w.setCell ⟨p, i, none⟩ v) (some p) :=
  ⟨h.os, h.tape, h.output, by simpa [World.setCell] using h.size, fun k hk hne => by
    rw [Below.heap_setCell _ _ _ _ (fun e => hne (by simp [e]))]
    exact h.block k hk hne⟩
theorem gbelow {B p : Nat} {w w' : World} (h : w.grownBy w' (some p)) (hB : B ≤ p) (hs : B ≤ w.heap.size) : Below B w w' :=
  (Below.refl B w).grown h hs (fun k hk => by cases hk; exact hB)
/-- blocks of one's own, behind all that was there -/
theorem gown {w u u2 : World} {p : Nat} {row : Option Nat} (h : w.grownBy u (some p)) (hg : u.grownBy u2 row) (hrow : ∀ k, row = some k → w.heap.size ≤ k) : w.grownBy u2 (some p) :=
  ⟨hg.os.trans h.os, hg.tape.trans h.tape, hg.output.trans h.output, Nat.le_trans h.size hg.size, fun k hk hne =>
    (hg.block k (Nat.lt_of_lt_of_le hk h.size) (fun e => by have := hrow k e.symm; omega)).trans (h.block k hk hne)⟩
theorem gtrans {w u u2 : World} {p : Nat} (h : w.grownBy u (some p)) (hg : u.grownBy u2 (some p)) : w.grownBy u2 (some p) :=
  ⟨hg.os.trans h.os, hg.tape.trans h.tape, hg.output.trans h.output, Nat.le_trans h.size hg.size, fun k hk hne =>
    (hg.block k (Nat.lt_of_lt_of_le hk h.size) hne).trans (h.block k hk hne)⟩
theorem Src.lt {w : World} {B p : Nat} {a : Option Addr} {len cap : Nat} (h : Src w B p a len cap) : p < w.heap.size := by
  obtain ⟨_, _, _, _, hh, _⟩ := h
  rcases Nat.lt_or_ge p w.heap.size with h | h
  · exact h
  · simp [Array.getElem?_eq_none h] at hh
theorem Src.kept {w w' : World} {B p : Nat} {a : Option Addr} {len cap : Nat} (h : Src w B p a len cap) (hb : w'.heap[p]? = w.heap[p]?) : Src w' B p a len cap := by
  obtain ⟨hB, x, y, z, hh, r⟩ := h
  exact ⟨hB, x, y, z, by rw [hb]; exact hh, r⟩

theorem below_most (x most : Int) (h : 1 < most) (h1 : most ≤ 9223372036854775807) : 0 ≤ wrap64 ((IntKind.u64.wrap x).tmod most) ∧ wrap64 ((IntKind.u64.wrap x).tmod most) < most := by
  have h0 : 0 ≤ IntKind.u64.wrap x := by rw [IntKind.wrap_u64]; omega
  rw [Int.tmod_eq_emod_of_nonneg h0]
  have h2 := Int.emod_nonneg (IntKind.u64.wrap x) (show most ≠ 0 by omega)
  have h3 := Int.emod_lt_of_pos (IntKind.u64.wrap x) (show 0 < most by omega)
  unfold wrap64
  omega

set_option maxRecDepth 20000 in
set_option maxHeartbeats 4000000 in
theorem n_any (B p : Nat) (a : Option Addr) (len cap : Nat) (most : Int) (w : World) (hS : Src w B p a len cap) (hC : Codes w B a len) (m0 : -9223372036854775808 ≤ most) (m1 : most ≤ 9223372036854775807) :
    Calls Tryd.prog 28 #[.pointer (some ⟨p, 0, none⟩), .int .i64 most] w fun e w' => ∃ v : Int, e = .returned (.int .i64 v) ∧ 0 ≤ v ∧ (1 < most → v < most) ∧ (most ≤ 1 → v = 0) ∧ Src w' B p a len cap ∧ w.grownBy w' (some p) := by
  by_cases hm : most ≤ 1
  · go_enter Tryd.func28, Tryd.ntmps28
    go_wp2
    go_ret
    exact ⟨0, rfl, by omega, by omega, fun _ => rfl, hS, World.grownBy.refl _ _⟩
  · obtain ⟨hBp, at_, mix, size, hh, a0, a1, x0, x1, s0, s1⟩ := hS
    obtain ⟨c0, c1, c2, c3, hfz⟩ := cells4 hh
    have HH : Hid (w.heap[p]? = some (.cells #[.slice a len cap, .int .i64 at_, .int .u64 mix, .int .i64 size] 77 (0, 0))) := hh
    clear hh
    have f1 := hfz 1
    have f2 := hfz 2
    clear hfz
    by_cases hat : at_ < len
    · obtain ⟨k, rfl⟩ : ∃ k : Nat, at_ = (k : Int) := ⟨at_.toNat, by omega⟩
      obtain ⟨hl, h0 | ⟨b, off, rfl, hbB, hcz⟩⟩ := hC
      · omega
      obtain ⟨z, hz, z0, z1⟩ := hcz k (by omega)
      clear hcz
      go_enter Tryd.func28, Tryd.ntmps28
      go_wp2
      go_quiet (fail)
      go_wp2
      go_quiet (fail)
      go_wp2
      clear c0 c1 c2 c3 f1 f2
      refine wp_world (Kept w B p (some ⟨b, off, none⟩) len cap ((k : Int) + 1) size) ⟨gset (gdrew (World.grownBy.refl _ _) _) _ _, mix, set4_1 (by simpa using HH.out) _, x0, x1⟩ ?_
      rintro u1 ⟨hB1, mix1, hh1, x10, x11⟩
      obtain ⟨c0, c1, c2, c3, hfz⟩ := cells4 hh1
      have HH1 : Hid (u1.heap[p]? = some (.cells #[.slice (some ⟨b, off, none⟩) len cap, .int .i64 (((k : Int) + 1)), .int .u64 mix1, .int .i64 size] 77 (0, 0))) := hh1
      clear hh1
      have f2 := hfz 2
      clear hfz
      go_region
      clear c0 c1 c2 c3 f2
      go_wp2
      refine wp_world (Kept w B p (some ⟨b, off, none⟩) len cap ((k : Int) + 1) size) ⟨gset (gdrew hB1 1) _ _, _, set4_2 (by simpa using HH1.out) _, bits_u64 _ _ _⟩ ?_
      rintro u2 ⟨hB2, mix2, hh2, x20, x21⟩
      obtain ⟨c0, c1, c2, c3, hfz⟩ := cells4 hh2
      have HH2 : Hid (u2.heap[p]? = some (.cells #[.slice (some ⟨b, off, none⟩) len cap, .int .i64 (((k : Int) + 1)), .int .u64 mix2, .int .i64 size] 77 (0, 0))) := hh2
      clear hh2
      have f2 := hfz 2
      clear hfz
      go_region
      clear c0 c1 c2 c3 f2
      go_wp2
      refine wp_world (Kept w B p (some ⟨b, off, none⟩) len cap ((k : Int) + 1) size) ⟨gset (gdrew hB2 1) _ _, _, set4_2 (by simpa using HH2.out) _, bits_u64 _ _ _⟩ ?_
      rintro u3 ⟨hB3, mix3, hh3, x30, x31⟩
      obtain ⟨c0, c1, c2, c3, hfz⟩ := cells4 hh3
      have HH3 : Hid (u3.heap[p]? = some (.cells #[.slice (some ⟨b, off, none⟩) len cap, .int .i64 (((k : Int) + 1)), .int .u64 mix3, .int .i64 size] 77 (0, 0))) := hh3
      clear hh3
      have f2 := hfz 2
      clear hfz
      go_region
      go_wp2
      go_ret
      have hmb := below_most (z + bits BinOp.xor IntKind.u64 mix3 (IntKind.u64.wrap (mix3 * 131072)) / 1048576) most (by omega) m1
      exact ⟨_, rfl, hmb.1, fun _ => hmb.2, fun h => by omega, ⟨hBp, _, _, size, set4_2 HH3.out _, by omega, by omega, (bits_u64 _ _ _).1, (bits_u64 _ _ _).2, s0, s1⟩, gdrew1 (gset hB3 _ _)⟩
    · go_enter Tryd.func28, Tryd.ntmps28
      go_wp2
      go_quiet (fail)
      clear c0 c1 c2 c3 f1 f2
      go_wp2
      refine wp_world (Kept w B p a len cap at_ size) ⟨gdrew (World.grownBy.refl _ _) _, mix, by simpa using HH.out, x0, x1⟩ ?_
      rintro u1 ⟨hB1, mix1, hh1, x10, x11⟩
      obtain ⟨c0, c1, c2, c3, hfz⟩ := cells4 hh1
      have HH1 : Hid (u1.heap[p]? = some (.cells #[.slice a len cap, .int .i64 (at_), .int .u64 mix1, .int .i64 size] 77 (0, 0))) := hh1
      clear hh1
      have f2 := hfz 2
      clear hfz
      go_region
      clear c0 c1 c2 c3 f2
      go_wp2
      refine wp_world (Kept w B p a len cap at_ size) ⟨gset (gdrew hB1 1) _ _, _, set4_2 (by simpa using HH1.out) _, bits_u64 _ _ _⟩ ?_
      rintro u2 ⟨hB2, mix2, hh2, x20, x21⟩
      obtain ⟨c0, c1, c2, c3, hfz⟩ := cells4 hh2
      have HH2 : Hid (u2.heap[p]? = some (.cells #[.slice a len cap, .int .i64 (at_), .int .u64 mix2, .int .i64 size] 77 (0, 0))) := hh2
      clear hh2
      have f2 := hfz 2
      clear hfz
      go_region
      clear c0 c1 c2 c3 f2
      go_wp2
      refine wp_world (Kept w B p a len cap at_ size) ⟨gset (gdrew hB2 1) _ _, _, set4_2 (by simpa using HH2.out) _, bits_u64 _ _ _⟩ ?_
      rintro u3 ⟨hB3, mix3, hh3, x30, x31⟩
      obtain ⟨c0, c1, c2, c3, hfz⟩ := cells4 hh3
      have HH3 : Hid (u3.heap[p]? = some (.cells #[.slice a len cap, .int .i64 (at_), .int .u64 mix3, .int .i64 size] 77 (0, 0))) := hh3
      clear hh3
      have f2 := hfz 2
      clear hfz
      go_region
      go_wp2
      go_ret
      have hmb := below_most (bits BinOp.xor IntKind.u64 mix3 (IntKind.u64.wrap (mix3 * 131072)) / 1048576) most (by omega) m1
      exact ⟨_, rfl, hmb.1, fun _ => hmb.2, fun h => by omega, ⟨hBp, _, _, size, set4_2 HH3.out _, a0, a1, (bits_u64 _ _ _).1, (bits_u64 _ _ _).2, s0, s1⟩, gdrew1 (gset hB3 _ _)⟩

theorem one_any (B p : Nat) (a : Option Addr) (len cap : Nat) (of_ : Int) (w : World) (hS : Src w B p a len cap) (hC : Codes w B a len) (m0 : -9223372036854775808 ≤ of_) (m1 : of_ ≤ 9223372036854775807) :
    Calls Tryd.prog 26 #[.pointer (some ⟨p, 0, none⟩), .int .i64 of_] w fun e w' => ∃ v : Bool, e = .returned (.bool v) ∧ Src w' B p a len cap ∧ w.grownBy w' (some p) := by
  go_enter Tryd.func26, Tryd.ntmps26
  go_wp2_with (go_at_call 28; refine (n_any B p a len cap _ _ hS hC m0 m1).mono ?_; rintro e w' ⟨v, rfl, v0, v1, v2, hS', hg⟩)
  go_ret
  exact ⟨_, rfl, by assumption, by assumption⟩
/-- what is kept while the source is mixed -/
def Mixed (w : World) (a : Option Addr) (len cap : Nat) (u : World) : Prop :=
  w.grownBy u none ∧ ∃ mix : Int, u.heap[w.heap.size]? = some (.cells #[.slice a len cap, .int .i64 0, .int .u64 mix, .int .i64 0] 77 (0, 0)) ∧ 0 ≤ mix ∧ mix ≤ 18446744073709551615
theorem nset {a w : World} (h : a.grownBy w none) (i : Nat) (v : Value) : a.grownBy (w.setCell ⟨a.heap.size, i, none⟩ v) none :=
  ⟨h.os, h.tape, h.output, by simpa [World.setCell] using h.size, fun k hk hne => by
    rw [Below.heap_setCell _ _ _ _ (fun e => by simp at e; omega)]
    exact h.block k hk hne⟩
theorem nbelow {w w' : World} (h : w.grownBy w' none) : Below w.heap.size w w' := ⟨h.os, h.tape, h.output, h.size, fun k hk => h.block k hk (by simp)⟩
theorem wrap_u64_bound (x : Int) : 0 ≤ IntKind.u64.wrap x ∧ IntKind.u64.wrap x ≤ 18446744073709551615 := by rw [IntKind.wrap_u64]; omega

set_option maxRecDepth 20000 in
set_option maxHeartbeats 2000000 in
theorem source_any (a : Option Addr) (len cap : Nat) (w : World) (hC : Codes w w.heap.size a len) :
    Calls Tryd.prog 24 #[.slice a len cap] w fun e w' => e = .returned (.pointer (some ⟨w.heap.size, 0, none⟩)) ∧ Src w' w.heap.size w.heap.size a len cap ∧ Below w.heap.size w w' := by
  have hl := hC.1
  have HC : Hid (Codes w w.heap.size a len) := hC
  clear hC
  go_enter Tryd.func24, Tryd.ntmps24
  go_wp2
  go_loopw [4] (fun i wr => ∃ k : Nat, i = .int .i64 k ∧ k ≤ len ∧ Mixed w a len cap wr) (fun i _ => len - (intOf i).toNat)
  case atStart => exact ⟨0, rfl, by omega, World.grownBy_alloc _ _ _, _, heap_alloc_new _ _, by omega, by omega⟩
  case round =>
    obtain ⟨k, rfl, hk, hg, mix, hh, x0, x1⟩ := hrel
    obtain ⟨c0, c1, c2, c3, hfz⟩ := cells4 hh
    have HH : Hid (wr.heap[w.heap.size]? = some (.cells #[.slice a len cap, .int .i64 0, .int .u64 mix, .int .i64 0] 77 (0, 0))) := hh
    have HG : Hid (w.grownBy wr none) := hg
    clear hh hg
    have f2 := hfz 2
    have f3 := hfz 3
    clear hfz
    by_cases hlt : k < len ∧ k < 64
    · obtain ⟨hl1, hl2⟩ := hlt
      obtain ⟨_, h0 | ⟨b, off, rfl, hbB, hcz⟩⟩ := HC.out
      · omega
      obtain ⟨z, hz', z0, z1⟩ := hcz k hl1
      have hz : wr.cell? ⟨b, off + k, none⟩ = some (.int .u8 z) := by rw [(nbelow HG.out).cell (p := ⟨b, off + k, none⟩) hbB]; exact hz'
      clear hcz hz'
      go_wp2
      go_region
      go_wp2
      go_roundw
      case rel => exact ⟨k + 1, by go_num, by omega, by first | exact ⟨nset HG.out _ _, _, set4_2 HH.out _, wrap_u64_bound _⟩ | exact ⟨nset (gdrew1 HG.out) _ _, _, set4_2 HH.out _, wrap_u64_bound _⟩ | exact ⟨gdrew1 (nset HG.out _ _), _, set4_2 HH.out _, wrap_u64_bound _⟩⟩
      case measure => simp [intOf]; omega
    · have hs0 : 0 ≤ (len : Int) / 20 := by omega
      by_cases hkl : k < len
      · have hk64 : ¬ k < 64 := fun h => hlt ⟨hkl, h⟩
        by_cases h12 : 12 < (len : Int) / 20
        · go_wp2
          go_ret
          exact ⟨rfl, ⟨Nat.le_refl _, 0, mix, 12, set4_3 (set4_3 HH.out _) _, by omega, by omega, x0, x1, by omega, by omega⟩, nbelow (nset (nset HG.out _ _) _ _)⟩
        · go_wp2
          go_ret
          exact ⟨rfl, ⟨Nat.le_refl _, 0, mix, _, set4_3 HH.out _, by omega, by omega, x0, x1, by omega, by omega⟩, nbelow (nset HG.out _ _)⟩
      · by_cases h12 : 12 < (len : Int) / 20
        · go_wp2
          go_ret
          exact ⟨rfl, ⟨Nat.le_refl _, 0, mix, 12, set4_3 (set4_3 HH.out _) _, by omega, by omega, x0, x1, by omega, by omega⟩, nbelow (nset (nset HG.out _ _) _ _)⟩
        · go_wp2
          go_ret
          exact ⟨rfl, ⟨Nat.le_refl _, 0, mix, _, set4_3 HH.out _, by omega, by omega, x0, x1, by omega, by omega⟩, nbelow (nset HG.out _ _)⟩

/-! ### The same, in one word for the world: a source made in w0, at work in u -/
def At (w0 : World) (a : Option Addr) (len cap : Nat) (u : World) : Prop := Src u w0.heap.size w0.heap.size a len cap ∧ Below w0.heap.size w0 u ∧ Codes u w0.heap.size a len
theorem At.next {w0 u u' : World} {a : Option Addr} {len cap : Nat} (h : At w0 a len cap u) (hS : Src u' w0.heap.size w0.heap.size a len cap) (hg : u.grownBy u' (some w0.heap.size)) : At w0 a len cap u' := by
  have hb := gbelow hg (Nat.le_refl _) h.2.1.size
  exact ⟨hS, h.2.1.trans hb, h.2.2.below hb⟩
theorem source_at (a : Option Addr) (len cap : Nat) (w : World) (hC : Codes w w.heap.size a len) :
    Calls Tryd.prog 24 #[.slice a len cap] w fun e w' => e = .returned (.pointer (some ⟨w.heap.size, 0, none⟩)) ∧ At w a len cap w' :=
  (source_any a len cap w hC).mono fun e w' ⟨he, hS, hb⟩ => ⟨he, hS, hb, hC.below hb⟩
theorem n_at {w0 u : World} {a : Option Addr} {len cap : Nat} (h : At w0 a len cap u) (most : Int) (m0 : -9223372036854775808 ≤ most) (m1 : most ≤ 9223372036854775807) :
    Calls Tryd.prog 28 #[.pointer (some ⟨w0.heap.size, 0, none⟩), .int .i64 most] u fun e w' => ∃ v : Int, e = .returned (.int .i64 v) ∧ 0 ≤ v ∧ (1 < most → v < most) ∧ (most ≤ 1 → v = 0) ∧ At w0 a len cap w' :=
  (n_any _ _ a len cap most u h.1 h.2.2 m0 m1).mono fun e w' ⟨v, he, v0, v1, v2, hS, hg⟩ => ⟨v, he, v0, v1, v2, h.next hS hg⟩
theorem one_at {w0 u : World} {a : Option Addr} {len cap : Nat} (h : At w0 a len cap u) (of_ : Int) (m0 : -9223372036854775808 ≤ of_) (m1 : of_ ≤ 9223372036854775807) :
    Calls Tryd.prog 26 #[.pointer (some ⟨w0.heap.size, 0, none⟩), .int .i64 of_] u fun e w' => ∃ v : Bool, e = .returned (.bool v) ∧ At w0 a len cap w' :=
  (one_any _ _ a len cap of_ u h.1 h.2.2 m0 m1).mono fun e w' ⟨v, he, hS, hg⟩ => ⟨v, he, h.next hS hg⟩
end Go.Proofs.YtkghbabnchofpaaDoor.dr
