/-
  What the model's draws hand back, for every bytes that they are drawn from: a number below the most, a text of that length; no old block turns.
-/
import Derived.Test.YtkfiigmfhfhkgaaDoorRows
import Derived.WalkKit
import Derived.ProofKit
import Derived.OpenShut
import Derived.ShutString
import Derived.WalkLawsBesides
import Derived.Laws.BytesArg
import Derived.Laws.BitsAllLaws
import Derived.BigRegion
import Derived.BigQuiet
import Derived.Deep.QuietTactic
import Derived.WalkSpells
import Derived.Laws.IdiomStrings
namespace Go.Proofs.YtkfiigmfhfhkgaaDoor.dr
open Go.ChangeShapes Go.WideShapes Go.ChangeAt Go.RowKit
set_option linter.unusedVariables false

/-- the bytes that are drawn from -/
def Codes (w : World) (B : Nat) (a : Option Addr) (len : Nat) : Prop :=
  len ≤ 1048576 ∧ (len = 0 ∨ ∃ b off, a = some ⟨b, off, none⟩ ∧ b < B ∧ ∀ i, i < len → ∃ z : Int, w.cell? ⟨b, off + i, none⟩ = some (.int .u8 z) ∧ 0 ≤ z ∧ z ≤ 255)
theorem Codes.below {w w' : World} {B : Nat} {a : Option Addr} {len : Nat} (h : Codes w B a len) (hb : Below B w w') : Codes w' B a len := by
  obtain ⟨hl, h0 | ⟨b, off, e, hB, hc⟩⟩ := h
  · exact ⟨hl, Or.inl h0⟩
  · refine ⟨hl, Or.inr ⟨b, off, e, hB, fun i hi => ?_⟩⟩
    obtain ⟨z, h1, h2⟩ := hc i hi
    exact ⟨z, by rw [hb.cell (p := ⟨b, off + i, none⟩) hB]; exact h1, h2⟩

/-- a source at work: its block's four cells -/
def Src (w : World) (B p : Nat) (a : Option Addr) (len cap : Nat) : Prop :=
  B ≤ p ∧ ∃ at_ mix size : Int, w.heap[p]? = some (.cells #[.slice a len cap, .int .i64 at_, .int .u64 mix, .int .i64 size] 87 (0, 0)) ∧ 0 ≤ at_ ∧ at_ ≤ 1048576 ∧ 0 ≤ mix ∧ mix ≤ 18446744073709551615 ∧ 0 ≤ size ∧ size ≤ 12

theorem cells4 {w : World} {p : Nat} {c0 c1 c2 c3 : Value} {t : TypeId} (h : w.heap[p]? = some (.cells #[c0, c1, c2, c3] t (0, 0))) :
    w.cell? ⟨p, 0, none⟩ = some c0 ∧ w.cell? ⟨p, 1, none⟩ = some c1 ∧ w.cell? ⟨p, 2, none⟩ = some c2 ∧ w.cell? ⟨p, 3, none⟩ = some c3 ∧ (∀ j, w.frozen? ⟨p, j, none⟩ = false) := by
  refine ⟨by simp [World.cell?, h], by simp [World.cell?, h], by simp [World.cell?, h], by simp [World.cell?, h], fun j => ?_⟩
  simp [World.frozen?, h]

theorem set4_1 {w : World} {p : Nat} {c0 c1 c2 c3 : Value} {t : TypeId} (h : w.heap[p]? = some (.cells #[c0, c1, c2, c3] t (0, 0))) (v : Value) :
    (w.setCell ⟨p, 1, none⟩ v).heap[p]? = some (.cells #[c0, v, c2, c3] t (0, 0)) := by simp [World.setCell, Array.getElem?_modify, h]
theorem set4_2 {w : World} {p : Nat} {c0 c1 c2 c3 : Value} {t : TypeId} (h : w.heap[p]? = some (.cells #[c0, c1, c2, c3] t (0, 0))) (v : Value) :
    (w.setCell ⟨p, 2, none⟩ v).heap[p]? = some (.cells #[c0, c1, v, c3] t (0, 0)) := by simp [World.setCell, Array.getElem?_modify, h]
theorem set4_3 {w : World} {p : Nat} {c0 c1 c2 c3 : Value} {t : TypeId} (h : w.heap[p]? = some (.cells #[c0, c1, c2, c3] t (0, 0))) (v : Value) :
    (w.setCell ⟨p, 3, none⟩ v).heap[p]? = some (.cells #[c0, c1, c2, v] t (0, 0)) := by simp [World.setCell, Array.getElem?_modify, h]
/-- the world behind a step, of which only this is kept -/
theorem wp_world {P : Program} {c : Code} {Q : Exit → Act → World → Prop} {a : Act} {w : World} (I : World → Prop) (hI : I w) (h : ∀ u, I u → c.wp P Q a u) : c.wp P Q a w := h w hI
theorem bits_u64 (op : BinOp) (x y : Int) : 0 ≤ bits op .u64 x y ∧ bits op .u64 x y ≤ 18446744073709551615 := by
  have := wf_bits op .u64 x y
  simpa [Lit.wf, IntKind.min, IntKind.max, IntKind.signed, IntKind.bits] using this

/-- what is kept of the world: a source whose number stands at 'at_' -/
def Kept (w : World) (B p : Nat) (a : Option Addr) (len cap : Nat) (at_ size : Int) (u : World) : Prop :=
  w.grownBy u (some p) ∧ ∃ mix : Int, u.heap[p]? = some (.cells #[.slice a len cap, .int .i64 at_, .int .u64 mix, .int .i64 size] 87 (0, 0)) ∧ 0 ≤ mix ∧ mix ≤ 18446744073709551615
theorem gdrew {a w : World} {r : Option Nat} (h : a.grownBy w r) (n : Nat) : a.grownBy (w.drewN n) r := ⟨h.os, h.tape, h.output, h.size, h.block⟩
theorem gdrew1 {a w : World} {r : Option Nat} (h : a.grownBy w r) : a.grownBy w.drew r := ⟨h.os, h.tape, h.output, h.size, h.block⟩
theorem gset {a w : World} {p : Nat} (h : a.grownBy w (some p)) (i : Nat) (v : Value) : a.grownBy (w.setCell ⟨p, i, none⟩ v) (some p) :=
  ⟨h.os, h.tape, h.output, by simpa [World.setCell] using h.size, fun k hk hne => by
    rw [Below.heap_setCell _ _ _ _ (fun e => hne (by simp [e]))]
    exact h.block k hk hne⟩
theorem gbelow {B p : Nat} {w w' : World} (h : w.grownBy w' (some p)) (hB : B ≤ p) (hs : B ≤ w.heap.size) : Below B w w' :=
  (Below.refl B w).grown h hs (fun k hk => by cases hk; exact hB)
/-- blocks of one's own, behind all that was there -/
theorem gown {w u u2 : World} {p : Nat} {row : Option Nat} (h : w.grownBy u (some p)) (hg : u.grownBy u2 row) (hrow : ∀ k, row = some k → w.heap.size ≤ k) : w.grownBy u2 (some p) :=
  ⟨hg.os.trans h.os, hg.tape.trans h.tape, hg.output.trans h.output, Nat.le_trans h.size hg.size, fun k hk hne =>
    (hg.block k (Nat.lt_of_lt_of_le hk h.size) (fun e => by have := hrow k e.symm; omega)).trans (h.block k hk hne)⟩
theorem gtrans {w u u2 : World} {p : Nat} (h : w.grownBy u (some p)) (hg : u.grownBy u2 (some p)) : w.grownBy u2 (some p) :=
  ⟨hg.os.trans h.os, hg.tape.trans h.tape, hg.output.trans h.output, Nat.le_trans h.size hg.size, fun k hk hne =>
    (hg.block k (Nat.lt_of_lt_of_le hk h.size) hne).trans (h.block k hk hne)⟩
theorem Src.lt {w : World} {B p : Nat} {a : Option Addr} {len cap : Nat} (h : Src w B p a len cap) : p < w.heap.size := by
  obtain ⟨_, _, _, _, hh, _⟩ := h
  rcases Nat.lt_or_ge p w.heap.size with h | h
  · exact h
  · simp [Array.getElem?_eq_none h] at hh
theorem Src.kept {w w' : World} {B p : Nat} {a : Option Addr} {len cap : Nat} (h : Src w B p a len cap) (hb : w'.heap[p]? = w.heap[p]?) : Src w' B p a len cap := by
  obtain ⟨hB, x, y, z, hh, r⟩ := h
  exact ⟨hB, x, y, z, by rw [hb]; exact hh, r⟩

theorem below_most (x most : Int) (h : 1 < most) (h1 : most ≤ 9223372036854775807) : 0 ≤ wrap64 ((IntKind.u64.wrap x).tmod most) ∧ wrap64 ((IntKind.u64.wrap x).tmod most) < most := by
  have h0 : 0 ≤ IntKind.u64.wrap x := by rw [IntKind.wrap_u64]; omega
  rw [Int.tmod_eq_emod_of_nonneg h0]
  have h2 := Int.emod_nonneg (IntKind.u64.wrap x) (show most ≠ 0 by omega)
  have h3 := Int.emod_lt_of_pos (IntKind.u64.wrap x) (show 0 < most by omega)
  unfold wrap64
  omega

set_option maxRecDepth 20000 in
set_option maxHeartbeats 4000000 in
theorem n_any (B p : Nat) (a : Option Addr) (len cap : Nat) (most : Int) (w : World) (hS : Src w B p a len cap) (hC : Codes w B a len) (m0 : -9223372036854775808 ≤ most) (m1 : most ≤ 9223372036854775807) :
    Calls Tryd.prog 47 #[.pointer (some ⟨p, 0, none⟩), .int .i64 most] w fun e w' => ∃ v : Int, e = .returned (.int .i64 v) ∧ 0 ≤ v ∧ (1 < most → v < most) ∧ (most ≤ 1 → v = 0) ∧ Src w' B p a len cap ∧ w.grownBy w' (some p) := by
  by_cases hm : most ≤ 1
  · go_enter Tryd.func47, Tryd.ntmps47
    go_wp2
    go_ret
    exact ⟨0, rfl, by omega, by omega, fun _ => rfl, hS, World.grownBy.refl _ _⟩
  · obtain ⟨hBp, at_, mix, size, hh, a0, a1, x0, x1, s0, s1⟩ := hS
    obtain ⟨c0, c1, c2, c3, hfz⟩ := cells4 hh
    have HH : Hid (w.heap[p]? = some (.cells #[.slice a len cap, .int .i64 at_, .int .u64 mix, .int .i64 size] 87 (0, 0))) := hh
    clear hh
    have f1 := hfz 1
    have f2 := hfz 2
    clear hfz
    by_cases hat : at_ < len
    · obtain ⟨k, rfl⟩ : ∃ k : Nat, at_ = (k : Int) := ⟨at_.toNat, by omega⟩
      obtain ⟨hl, h0 | ⟨b, off, rfl, hbB, hcz⟩⟩ := hC
      · omega
      obtain ⟨z, hz, z0, z1⟩ := hcz k (by omega)
      clear hcz
      go_enter Tryd.func47, Tryd.ntmps47
      go_wp2
      go_quiet (fail)
      go_wp2
      go_quiet (fail)
      go_wp2
      clear c0 c1 c2 c3 f1 f2
      refine wp_world (Kept w B p (some ⟨b, off, none⟩) len cap ((k : Int) + 1) size) ⟨gset (gdrew (World.grownBy.refl _ _) _) _ _, mix, set4_1 (by simpa using HH.out) _, x0, x1⟩ ?_
      rintro u1 ⟨hB1, mix1, hh1, x10, x11⟩
      obtain ⟨c0, c1, c2, c3, hfz⟩ := cells4 hh1
      have HH1 : Hid (u1.heap[p]? = some (.cells #[.slice (some ⟨b, off, none⟩) len cap, .int .i64 (((k : Int) + 1)), .int .u64 mix1, .int .i64 size] 87 (0, 0))) := hh1
      clear hh1
      have f2 := hfz 2
      clear hfz
      go_region
      clear c0 c1 c2 c3 f2
      go_wp2
      refine wp_world (Kept w B p (some ⟨b, off, none⟩) len cap ((k : Int) + 1) size) ⟨gset (gdrew hB1 1) _ _, _, set4_2 (by simpa using HH1.out) _, bits_u64 _ _ _⟩ ?_
      rintro u2 ⟨hB2, mix2, hh2, x20, x21⟩
      obtain ⟨c0, c1, c2, c3, hfz⟩ := cells4 hh2
      have HH2 : Hid (u2.heap[p]? = some (.cells #[.slice (some ⟨b, off, none⟩) len cap, .int .i64 (((k : Int) + 1)), .int .u64 mix2, .int .i64 size] 87 (0, 0))) := hh2
      clear hh2
      have f2 := hfz 2
      clear hfz
      go_region
      clear c0 c1 c2 c3 f2
      go_wp2
      refine wp_world (Kept w B p (some ⟨b, off, none⟩) len cap ((k : Int) + 1) size) ⟨gset (gdrew hB2 1) _ _, _, set4_2 (by simpa using HH2.out) _, bits_u64 _ _ _⟩ ?_
      rintro u3 ⟨hB3, mix3, hh3, x30, x31⟩
      obtain ⟨c0, c1, c2, c3, hfz⟩ := cells4 hh3
      have HH3 : Hid (u3.heap[p]? = some (.cells #[.slice (some ⟨b, off, none⟩) len cap, .int .i64 (((k : Int) + 1)), .int .u64 mix3, .int .i64 size] 87 (0, 0))) := hh3
      clear hh3
      have f2 := hfz 2
      clear hfz
      go_region
      go_wp2
      go_ret
      have hmb := below_most (z + bits BinOp.xor IntKind.u64 mix3 (IntKind.u64.wrap (mix3 * 131072)) / 1048576) most (by omega) m1
      exact ⟨_, rfl, hmb.1, fun _ => hmb.2, fun h => by omega, ⟨hBp, _, _, size, set4_2 HH3.out _, by omega, by omega, (bits_u64 _ _ _).1, (bits_u64 _ _ _).2, s0, s1⟩, gdrew1 (gset hB3 _ _)⟩
    · go_enter Tryd.func47, Tryd.ntmps47
      go_wp2
      go_quiet (fail)
      clear c0 c1 c2 c3 f1 f2
      go_wp2
      refine wp_world (Kept w B p a len cap at_ size) ⟨gdrew (World.grownBy.refl _ _) _, mix, by simpa using HH.out, x0, x1⟩ ?_
      rintro u1 ⟨hB1, mix1, hh1, x10, x11⟩
      obtain ⟨c0, c1, c2, c3, hfz⟩ := cells4 hh1
      have HH1 : Hid (u1.heap[p]? = some (.cells #[.slice a len cap, .int .i64 (at_), .int .u64 mix1, .int .i64 size] 87 (0, 0))) := hh1
      clear hh1
      have f2 := hfz 2
      clear hfz
      go_region
      clear c0 c1 c2 c3 f2
      go_wp2
      refine wp_world (Kept w B p a len cap at_ size) ⟨gset (gdrew hB1 1) _ _, _, set4_2 (by simpa using HH1.out) _, bits_u64 _ _ _⟩ ?_
      rintro u2 ⟨hB2, mix2, hh2, x20, x21⟩
      obtain ⟨c0, c1, c2, c3, hfz⟩ := cells4 hh2
      have HH2 : Hid (u2.heap[p]? = some (.cells #[.slice a len cap, .int .i64 (at_), .int .u64 mix2, .int .i64 size] 87 (0, 0))) := hh2
      clear hh2
      have f2 := hfz 2
      clear hfz
      go_region
      clear c0 c1 c2 c3 f2
      go_wp2
      refine wp_world (Kept w B p a len cap at_ size) ⟨gset (gdrew hB2 1) _ _, _, set4_2 (by simpa using HH2.out) _, bits_u64 _ _ _⟩ ?_
      rintro u3 ⟨hB3, mix3, hh3, x30, x31⟩
      obtain ⟨c0, c1, c2, c3, hfz⟩ := cells4 hh3
      have HH3 : Hid (u3.heap[p]? = some (.cells #[.slice a len cap, .int .i64 (at_), .int .u64 mix3, .int .i64 size] 87 (0, 0))) := hh3
      clear hh3
      have f2 := hfz 2
      clear hfz
      go_region
      go_wp2
      go_ret
      have hmb := below_most (bits BinOp.xor IntKind.u64 mix3 (IntKind.u64.wrap (mix3 * 131072)) / 1048576) most (by omega) m1
      exact ⟨_, rfl, hmb.1, fun _ => hmb.2, fun h => by omega, ⟨hBp, _, _, size, set4_2 HH3.out _, a0, a1, (bits_u64 _ _ _).1, (bits_u64 _ _ _).2, s0, s1⟩, gdrew1 (gset hB3 _ _)⟩

theorem one_any (B p : Nat) (a : Option Addr) (len cap : Nat) (of_ : Int) (w : World) (hS : Src w B p a len cap) (hC : Codes w B a len) (m0 : -9223372036854775808 ≤ of_) (m1 : of_ ≤ 9223372036854775807) :
    Calls Tryd.prog 46 #[.pointer (some ⟨p, 0, none⟩), .int .i64 of_] w fun e w' => ∃ v : Bool, e = .returned (.bool v) ∧ Src w' B p a len cap ∧ w.grownBy w' (some p) := by
  go_enter Tryd.func46, Tryd.ntmps46
  go_wp2_with (go_at_call 47; refine (n_any B p a len cap _ _ hS hC m0 m1).mono ?_; rintro e w' ⟨v, rfl, v0, v1, v2, hS', hg⟩)
  go_ret
  exact ⟨_, rfl, by assumption, by assumption⟩

theorem info5 : (Tryd.prog.info? 5).map (fun i => (i.zero, i.size, i.bytes)) = some (some (.int .u8 0), 1, 1) := by kernel_rfl
theorem conv_owned {w : World} {base : Nat} {v : Value} {n : Nat} {xs : List Int} (h : w.ownsRow base 5 1 v n (xs.map (Value.int .u8))) :
    (convert 22 9 v).run Tryd.prog w = .ok (.string (strOfNums xs)) w := by
  obtain ⟨hl, ⟨rfl, rfl⟩ | ⟨g, cap, cur, rfl, hg, hh, h1, h2, h3, h4⟩⟩ := h
  · have : xs = [] := by
      apply List.eq_nil_of_length_eq_zero
      simpa using hl
    subst this
    exact run_convert_bytes_nil (P := Tryd.prog) w 22 5 Tryd.underlying22 Tryd.underlying5 0 0 9 Tryd.underlying9
  · have hlen : xs.length = n := by simpa using hl
    refine run_convert_bytes_arg (P := Tryd.prog) w 22 5 Tryd.underlying22 Tryd.underlying5 g 0 n cap xs hlen (fun i hi => ?_) 9 Tryd.underlying9
    have hc : (cur.toList.take (n * 1))[i]? = some (Value.int .u8 (xs.getD i 0)) := by
      rw [h4, List.getElem?_map, List.getElem?_eq_getElem (by omega)]
      simp [List.getD, List.getElem?_eq_getElem (show i < xs.length by omega)]
    rw [List.getElem?_take_of_lt (by omega)] at hc
    simp [World.cell?, hh]
    simpa using hc

/-- what holds while a text is drawn -/
def Going (w : World) (B p : Nat) (a : Option Addr) (len cap : Nat) (k : Nat) (v : Value) (wr : World) : Prop :=
  ∃ xs : List Int, xs.length = k ∧ wr.ownsRow w.heap.size 5 1 v k (xs.map (Value.int .u8)) ∧ Src wr B p a len cap ∧ w.grownBy wr (some p)

theorem own_kept {w wr : World} {p : Nat} {v : Value} {k : Nat} {xs : List Value} (h : wr.ownsRow w.heap.size 5 1 v k xs) (hp : p < w.heap.size) :
    Hid (∀ w1, wr.grownBy w1 (some p) → w1.ownsRow w.heap.size 5 1 v k xs) := fun w1 hg => by
  refine h.kept hg ?_
  cases hv : v.ownBlock with
  | none => exact Or.inl rfl
  | some q =>
    right
    intro e
    have := (h.lt q hv).1
    cases e
    omega
theorem going_step {w wr w1 w2 : World} {B p : Nat} {a : Option Addr} {len cap k : Nat} {v v' : Value} {xs : List Int} {y : Int} (hgr : w.grownBy wr (some p)) (hp : p < w.heap.size) (hx : xs.length = k)
    (hS1 : Src w1 B p a len cap) (hg1 : wr.grownBy w1 (some p)) (hown1 : w1.ownsRow w.heap.size 5 1 v k (xs.map (Value.int .u8)))
    (hown2 : w2.ownsRow w.heap.size 5 1 v' (k + 1) (xs.map (Value.int .u8) ++ [.int .u8 y])) (hg2 : (w1.alloc (.cells #[.int .u8 y] 5)).grownBy w2 v.ownBlock) : Going w B p a len cap (k + 1) v' w2 := by
  have hrow : ∀ q, v.ownBlock = some q → w.heap.size ≤ q := fun q hq => (hown1.lt q hq).1
  have hga : w.grownBy (w1.alloc (.cells #[.int .u8 y] 5)) (some p) := gown (gtrans hgr hg1) (World.grownBy_alloc _ _ none) (fun q hq => by cases hq)
  refine ⟨xs ++ [y], by simp [hx], by simpa using hown2, ?_, gown hga hg2 hrow⟩
  have h1 : p < w1.heap.size := hS1.lt
  refine hS1.kept ?_
  rw [hg2.block p (by simp; omega) (fun e => by have := hrow p e.symm; omega)]
  exact Below.heap_alloc _ _ _ h1

set_option maxHeartbeats 1000000 in
theorem bytes_any (B p : Nat) (a : Option Addr) (len cap : Nat) (n : Int) (w : World) (hS : Src w B p a len cap) (hC : Codes w B a len) (n0 : 0 ≤ n) (n1 : n ≤ 1048576) :
    Calls Tryd.prog 48 #[.pointer (some ⟨p, 0, none⟩), .int .i64 n] w fun e w' => ∃ t : ByteArray, e = .returned (.string t) ∧ (t.size : Int) = n ∧ Src w' B p a len cap ∧ w.grownBy w' (some p) := by
  obtain ⟨i0, hi, hz0, hz1, hz2⟩ := info_parts info5
  have hp := hS.lt
  have HB : Hid (B ≤ p) := hS.1
  have HC : Hid (Codes w B a len) := hC
  clear hC
  have HS : Hid (Src w B p a len cap) := hS
  clear hS
  go_enter Tryd.func48, Tryd.ntmps48
  go_wp2
  go_loopw [5, 6] (fun v i wr => ∃ k : Nat, i = .int .i64 k ∧ (k : Int) ≤ n ∧ Going w B p a len cap k v wr) (fun _ i _ => (n - intOf i).toNat)
  case atStart =>
    refine ⟨0, rfl, n0, [], rfl, ⟨rfl, Or.inr ⟨w.heap.size, 0, #[], rfl, Nat.le_refl _, heap_alloc_new _ _, Nat.le_refl _, Nat.zero_le _, rfl, rfl⟩⟩, HS.out.kept (Below.heap_alloc _ _ _ hp), World.grownBy_alloc _ _ _⟩
  case round =>
    obtain ⟨k, rfl, hk, xs, hx, hown, hSr, hgr⟩ := hrel
    by_cases hlt : (k : Int) < n
    · have HCr : Hid (Codes wr B a len) := HC.out.below (gbelow hgr HB.out (by have := HB.out; omega))
      have HSr : Hid (Src wr B p a len cap) := hSr
      have HGr : Hid (w.grownBy wr (some p)) := hgr
      have HK := own_kept hown hp
      go_wp2_with (first | (go_at_call 47; refine (n_any B p a len cap _ _ HSr.out HCr.out (by omega) (by omega)).mono ?_; rintro e w1 ⟨y, rfl, y0, y1, y2, hS1, hg1⟩; have hy := y1 (by decide); have hown1 := HK.out w1 hg1; have hz1' := hg1.size) | (at_builtin; refine wpList_append_own _ rfl _ _ 22 rfl w.heap.size 5 i0 (.int .u8 0) 1 1 Tryd.underlying22 hi hz0 hz1 hz2 rfl (by decide) _ _ _ rfl (hown1.alloc _) ⟨w1.heap.size, 0, none⟩ 1 1 [.int .u8 y] rfl rfl (cell_one_new _ _ _) (fun x hx => by simp at hx; subst hx; rfl) (by unfold maxLen; omega) (by omega) (by have := HGr.out.size; simp; omega) ?_))
      intro v' w2 hown2 hg2 _
      have HR : Hid (Going w B p a len cap (k + 1) v' w2) := going_step HGr.out hp hx hS1 hg1 hown1 hown2 hg2
      clear hown2 hg2 hown1 hg1 hS1
      go_wp2
      go_roundw
      case rel => exact ⟨k + 1, by go_num, by omega, HR.out⟩
      case measure => simp [intOf]; omega
    · have hkn : (k : Int) = n := by omega
      have hconv := conv_owned hown
      have HT : Hid ((strOfNums xs).size = k) := by show _ = _; rw [strOfNums_size, hx]
      clear hown
      go_wp2
      go_ret
      exact ⟨_, rfl, by rw [HT.out]; exact hkn, hSr, hgr⟩

/-- what is kept while the source is mixed -/
def Mixed (w : World) (a : Option Addr) (len cap : Nat) (u : World) : Prop :=
  w.grownBy u none ∧ ∃ mix : Int, u.heap[w.heap.size]? = some (.cells #[.slice a len cap, .int .i64 0, .int .u64 mix, .int .i64 0] 87 (0, 0)) ∧ 0 ≤ mix ∧ mix ≤ 18446744073709551615
theorem nset {a w : World} (h : a.grownBy w none) (i : Nat) (v : Value) : a.grownBy (w.setCell ⟨a.heap.size, i, none⟩ v) none :=
  ⟨h.os, h.tape, h.output, by simpa [World.setCell] using h.size, fun k hk hne => by
    rw [Below.heap_setCell _ _ _ _ (fun e => by simp at e; omega)]
    exact h.block k hk hne⟩
theorem nbelow {w w' : World} (h : w.grownBy w' none) : Below w.heap.size w w' := ⟨h.os, h.tape, h.output, h.size, fun k hk => h.block k hk (by simp)⟩
theorem wrap_u64_bound (x : Int) : 0 ≤ IntKind.u64.wrap x ∧ IntKind.u64.wrap x ≤ 18446744073709551615 := by rw [IntKind.wrap_u64]; omega

set_option maxRecDepth 20000 in
set_option maxHeartbeats 2000000 in
theorem source_any (a : Option Addr) (len cap : Nat) (w : World) (hC : Codes w w.heap.size a len) :
    Calls Tryd.prog 40 #[.slice a len cap] w fun e w' => e = .returned (.pointer (some ⟨w.heap.size, 0, none⟩)) ∧ Src w' w.heap.size w.heap.size a len cap ∧ Below w.heap.size w w' := by
  have hl := hC.1
  have HC : Hid (Codes w w.heap.size a len) := hC
  clear hC
  go_enter Tryd.func40, Tryd.ntmps40
  go_wp2
  go_loopw [4] (fun i wr => ∃ k : Nat, i = .int .i64 k ∧ k ≤ len ∧ Mixed w a len cap wr) (fun i _ => len - (intOf i).toNat)
  case atStart => exact ⟨0, rfl, by omega, World.grownBy_alloc _ _ _, _, heap_alloc_new _ _, by omega, by omega⟩
  case round =>
    obtain ⟨k, rfl, hk, hg, mix, hh, x0, x1⟩ := hrel
    obtain ⟨c0, c1, c2, c3, hfz⟩ := cells4 hh
    have HH : Hid (wr.heap[w.heap.size]? = some (.cells #[.slice a len cap, .int .i64 0, .int .u64 mix, .int .i64 0] 87 (0, 0))) := hh
    have HG : Hid (w.grownBy wr none) := hg
    clear hh hg
    have f2 := hfz 2
    have f3 := hfz 3
    clear hfz
    by_cases hlt : k < len ∧ k < 64
    · obtain ⟨hl1, hl2⟩ := hlt
      obtain ⟨_, h0 | ⟨b, off, rfl, hbB, hcz⟩⟩ := HC.out
      · omega
      obtain ⟨z, hz', z0, z1⟩ := hcz k hl1
      have hz : wr.cell? ⟨b, off + k, none⟩ = some (.int .u8 z) := by rw [(nbelow HG.out).cell (p := ⟨b, off + k, none⟩) hbB]; exact hz'
      clear hcz hz'
      go_wp2
      go_region
      go_wp2
      go_roundw
      case rel => exact ⟨k + 1, by go_num, by omega, by first | exact ⟨nset HG.out _ _, _, set4_2 HH.out _, wrap_u64_bound _⟩ | exact ⟨nset (gdrew1 HG.out) _ _, _, set4_2 HH.out _, wrap_u64_bound _⟩ | exact ⟨gdrew1 (nset HG.out _ _), _, set4_2 HH.out _, wrap_u64_bound _⟩⟩
      case measure => simp [intOf]; omega
    · have hs0 : 0 ≤ (len : Int) / 20 := by omega
      by_cases hkl : k < len
      · have hk64 : ¬ k < 64 := fun h => hlt ⟨hkl, h⟩
        by_cases h12 : 12 < (len : Int) / 20
        · go_wp2
          go_ret
          exact ⟨rfl, ⟨Nat.le_refl _, 0, mix, 12, set4_3 (set4_3 HH.out _) _, by omega, by omega, x0, x1, by omega, by omega⟩, nbelow (nset (nset HG.out _ _) _ _)⟩
        · go_wp2
          go_ret
          exact ⟨rfl, ⟨Nat.le_refl _, 0, mix, _, set4_3 HH.out _, by omega, by omega, x0, x1, by omega, by omega⟩, nbelow (nset HG.out _ _)⟩
      · by_cases h12 : 12 < (len : Int) / 20
        · go_wp2
          go_ret
          exact ⟨rfl, ⟨Nat.le_refl _, 0, mix, 12, set4_3 (set4_3 HH.out _) _, by omega, by omega, x0, x1, by omega, by omega⟩, nbelow (nset (nset HG.out _ _) _ _)⟩
        · go_wp2
          go_ret
          exact ⟨rfl, ⟨Nat.le_refl _, 0, mix, _, set4_3 HH.out _, by omega, by omega, x0, x1, by omega, by omega⟩, nbelow (nset HG.out _ _)⟩

/-- a number at some limit -/
theorem edge_cell (u : World) (v : Nat) (hv : v < 14) :
    ∃ z : Int, (u.alloc (.cells #[.int .i64 0, .int .i64 1, .int .i64 (-1), .int .i64 2, .int .i64 1000, .int .i64 1001, .int .i64 2147483648, .int .i64 2147483647, .int .i64 (-2147483648), .int .i64 4611686018427387904, .int .i64 9223372036854775807, .int .i64 (-9223372036854775808), .int .i64 1000000, .int .i64 1000001] 2)).cell? ⟨u.heap.size, v, none⟩ = some (.int .i64 z) ∧ -9223372036854775808 ≤ z ∧ z ≤ 9223372036854775807 := by
  match v, hv with
  | 0, _ => exact ⟨0, by simp, by omega, by omega⟩
  | 1, _ => exact ⟨1, by simp, by omega, by omega⟩
  | 2, _ => exact ⟨-1, by simp, by omega, by omega⟩
  | 3, _ => exact ⟨2, by simp, by omega, by omega⟩
  | 4, _ => exact ⟨1000, by simp, by omega, by omega⟩
  | 5, _ => exact ⟨1001, by simp, by omega, by omega⟩
  | 6, _ => exact ⟨2147483648, by simp, by omega, by omega⟩
  | 7, _ => exact ⟨2147483647, by simp, by omega, by omega⟩
  | 8, _ => exact ⟨-2147483648, by simp, by omega, by omega⟩
  | 9, _ => exact ⟨4611686018427387904, by simp, by omega, by omega⟩
  | 10, _ => exact ⟨9223372036854775807, by simp, by omega, by omega⟩
  | 11, _ => exact ⟨-9223372036854775808, by simp, by omega, by omega⟩
  | 12, _ => exact ⟨1000000, by simp, by omega, by omega⟩
  | 13, _ => exact ⟨1000001, by simp, by omega, by omega⟩

set_option maxHeartbeats 1000000 in
theorem edge_any (B p : Nat) (a : Option Addr) (len cap : Nat) (w : World) (hS : Src w B p a len cap) (hC : Codes w B a len) :
    Calls Tryd.prog 53 #[.pointer (some ⟨p, 0, none⟩)] w fun e w' => ∃ v : Int, e = .returned (.int .i64 v) ∧ -9223372036854775808 ≤ v ∧ v ≤ 9223372036854775807 ∧ Src w' B p a len cap ∧ w.grownBy w' (some p) := by
  have hp := hS.lt
  have hBp := hS.1
  have HS : Hid (∀ o : Obj, Src (w.alloc o) B p a len cap) := fun o => hS.kept (Below.heap_alloc _ _ _ hp)
  have HC : Hid (∀ o : Obj, Codes (w.alloc o) B a len) := fun o => hC.below ((Below.refl _ _).alloc (by omega) _)
  have HE : Hid (∀ v : Nat, v < 14 → ∃ z : Int, (w.alloc (.cells #[.int .i64 0, .int .i64 1, .int .i64 (-1), .int .i64 2, .int .i64 1000, .int .i64 1001, .int .i64 2147483648, .int .i64 2147483647, .int .i64 (-2147483648), .int .i64 4611686018427387904, .int .i64 9223372036854775807, .int .i64 (-9223372036854775808), .int .i64 1000000, .int .i64 1000001] 2)).cell? ⟨w.heap.size, v, none⟩ = some (.int .i64 z) ∧ -9223372036854775808 ≤ z ∧ z ≤ 9223372036854775807) := fun v hv => edge_cell w v hv
  clear hS hC
  go_enter Tryd.func53, Tryd.ntmps53
  go_wp2_with (go_at_call 47; refine (n_any B p a len cap _ _ (HS.out _) (HC.out _) (by omega) (by omega)).mono ?_; rintro e w1 ⟨v, rfl, v0, v1, v2, hS1, hg1⟩; have hv14 := v1 (by decide); obtain ⟨k, rfl⟩ : ∃ k : Nat, v = (k : Int) := ⟨v.toNat, by omega⟩; obtain ⟨z, hz, z0, z1⟩ := HE.out k (by omega); have hz1 := hg1.cell hz (by simp; omega))
  go_ret
  exact ⟨_, rfl, z0, z1, by assumption, gown (World.grownBy.refl _ _) (World.grownBy_alloc _ _ none) (fun q hq => by cases hq) |> fun h => gtrans h hg1⟩

/-! ### The same, in one word for the world: a source made in w0, at work in u -/
def At (w0 : World) (a : Option Addr) (len cap : Nat) (u : World) : Prop := Src u w0.heap.size w0.heap.size a len cap ∧ Below w0.heap.size w0 u ∧ Codes u w0.heap.size a len
theorem At.next {w0 u u' : World} {a : Option Addr} {len cap : Nat} (h : At w0 a len cap u) (hS : Src u' w0.heap.size w0.heap.size a len cap) (hg : u.grownBy u' (some w0.heap.size)) : At w0 a len cap u' := by
  have hb := gbelow hg (Nat.le_refl _) h.2.1.size
  exact ⟨hS, h.2.1.trans hb, h.2.2.below hb⟩
theorem source_at (a : Option Addr) (len cap : Nat) (w : World) (hC : Codes w w.heap.size a len) :
    Calls Tryd.prog 40 #[.slice a len cap] w fun e w' => e = .returned (.pointer (some ⟨w.heap.size, 0, none⟩)) ∧ At w a len cap w' :=
  (source_any a len cap w hC).mono fun e w' ⟨he, hS, hb⟩ => ⟨he, hS, hb, hC.below hb⟩
theorem n_at {w0 u : World} {a : Option Addr} {len cap : Nat} (h : At w0 a len cap u) (most : Int) (m0 : -9223372036854775808 ≤ most) (m1 : most ≤ 9223372036854775807) :
    Calls Tryd.prog 47 #[.pointer (some ⟨w0.heap.size, 0, none⟩), .int .i64 most] u fun e w' => ∃ v : Int, e = .returned (.int .i64 v) ∧ 0 ≤ v ∧ (1 < most → v < most) ∧ (most ≤ 1 → v = 0) ∧ At w0 a len cap w' :=
  (n_any _ _ a len cap most u h.1 h.2.2 m0 m1).mono fun e w' ⟨v, he, v0, v1, v2, hS, hg⟩ => ⟨v, he, v0, v1, v2, h.next hS hg⟩
theorem one_at {w0 u : World} {a : Option Addr} {len cap : Nat} (h : At w0 a len cap u) (of_ : Int) (m0 : -9223372036854775808 ≤ of_) (m1 : of_ ≤ 9223372036854775807) :
    Calls Tryd.prog 46 #[.pointer (some ⟨w0.heap.size, 0, none⟩), .int .i64 of_] u fun e w' => ∃ v : Bool, e = .returned (.bool v) ∧ At w0 a len cap w' :=
  (one_any _ _ a len cap of_ u h.1 h.2.2 m0 m1).mono fun e w' ⟨v, he, hS, hg⟩ => ⟨v, he, h.next hS hg⟩
theorem bytes_at {w0 u : World} {a : Option Addr} {len cap : Nat} (h : At w0 a len cap u) (n : Int) (n0 : 0 ≤ n) (n1 : n ≤ 1048576) :
    Calls Tryd.prog 48 #[.pointer (some ⟨w0.heap.size, 0, none⟩), .int .i64 n] u fun e w' => ∃ t : ByteArray, e = .returned (.string t) ∧ (t.size : Int) = n ∧ At w0 a len cap w' :=
  (bytes_any _ _ a len cap n u h.1 h.2.2 n0 n1).mono fun e w' ⟨t, he, ht, hS, hg⟩ => ⟨t, he, ht, h.next hS hg⟩
theorem edge_at {w0 u : World} {a : Option Addr} {len cap : Nat} (h : At w0 a len cap u) :
    Calls Tryd.prog 53 #[.pointer (some ⟨w0.heap.size, 0, none⟩)] u fun e w' => ∃ v : Int, e = .returned (.int .i64 v) ∧ -9223372036854775808 ≤ v ∧ v ≤ 9223372036854775807 ∧ At w0 a len cap w' :=
  (edge_any _ _ a len cap u h.1 h.2.2).mono fun e w' ⟨v, he, v0, v1, hS, hg⟩ => ⟨v, he, v0, v1, h.next hS hg⟩
theorem zeros_make (N : Nat) (hN : N ≤ 1048576) (u : World) : (Instr.makeSlice 22 (.int .i64 (N : Int)) (.int .i64 (N : Int))).run Tryd.prog u =
    .ok (.slice (some ⟨u.heap.size, 0, none⟩) N N) (u.alloc (.cells (madeCells #[.int .u8 0] N) 5)) := by
  obtain ⟨i0, hi, hz0, hz1, hz2⟩ := info_parts info5
  have h := run_make (P := Tryd.prog) u 22 5 i0 (.int .u8 0) Tryd.underlying22 hi hz0 .i64 .i64 (N : Int) (N : Int) (by omega) (Int.le_refl _) (by rw [hz2]; omega) (by omega)
  simpa [hz1, Value.cells] using h
theorem zeros_conv (N : Nat) (u : World) : (convert 22 9 (.slice (some ⟨u.heap.size, 0, none⟩) N N)).run Tryd.prog (u.alloc (.cells (madeCells #[.int .u8 0] N) 5)) =
    .ok (.string ⟨(List.replicate N (0 : UInt8)).toArray⟩) (u.alloc (.cells (madeCells #[.int .u8 0] N) 5)) := by
  have h := run_convert_bytes_back (P := Tryd.prog) (u.alloc (.cells (madeCells #[.int .u8 0] N) 5)) 22 9 5 ⟨u.heap.size, 0, none⟩ N (List.replicate N (0 : UInt8)) Tryd.underlying22 Tryd.underlying5 Tryd.underlying9 (fun j hj => by
    have e : (⟨u.heap.size, 0, none⟩ : Addr).add j = ⟨u.heap.size, j, none⟩ := by unfold Addr.add; split <;> simp_all
    rw [e]
    simp at hj
    simp [madeCells, hj, Nat.mod_one])
  simpa using h
end Go.Proofs.YtkfiigmfhfhkgaaDoor.dr
