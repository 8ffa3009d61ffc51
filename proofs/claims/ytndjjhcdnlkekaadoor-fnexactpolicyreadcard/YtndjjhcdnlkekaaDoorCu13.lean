/-
  The walk of the law that holds the program's PolicyRead against the model's: true at every text; what is written into the answer stays there, and the answer stays what it was. No condition.
-/
import Derived.Test.YtndjjhcdnlkekaaDoorCu12
import Derived.Test.YtndjjhcdnlkekaaDoorCu9
import Derived.Deep.Cut
namespace Go.Proofs.YtndjjhcdnlkekaaDoor.cu
open Go.ChangeShapes Go.WideShapes Go.ChangeAt Go.RowKit
open Go.Proofs.YtndjjhcdnlkekaaDoor.rl
open Go.Proofs.YtndjjhcdnlkekaaDoor.ot (below_own)
open Go.Proofs.YtndjjhcdnlkekaaDoor.wi (heap_lt calls_w wp_w)
open Classical
set_option linter.unusedVariables false

theorem OutIs.short {t : ByteArray} {l : List Ln} {a b : Int} (h : OutIs t l a b) : l.length ≤ 12 := by
  rcases h with ⟨_, rfl, _⟩ | ⟨_, g, hg, ⟨_, rfl, _⟩ | ⟨_, _, rfl, _⟩⟩
  · exact Nat.zero_le _
  · exact Nat.zero_le _
  · exact hg.2.1
/-- the model's answer is at hand -/
def J1 (w : World) (q0 : Nat) (v0 : Value) (l : List Ln) (a b : Int) (u : World) : Prop := Below w.heap.size w u ∧ rw.At u q0 #[v0, .int .i64 a, .int .i64 b] 38 ∧ OwR (w.heap.size + 1) v0 l u ∧ w.heap.size ≤ q0
theorem J1.up {w u u' : World} {q0 : Nat} {v0 : Value} {l : List Ln} {a b : Int} (h : J1 w q0 v0 l a b u) (hb : Below u.heap.size u u') : J1 w q0 v0 l a b u' := ⟨h.1.trans (hb.mono h.1.size), h.2.1.up hb, h.2.2.1.up hb, h.2.2.2⟩
/-- and the program's -/
def J2 (w : World) (q0 : Nat) (v0 : Value) (q1 : Nat) (v1 : Value) (base : Nat) (l : List Ln) (a b : Int) (u : World) : Prop := J1 w q0 v0 l a b u ∧ rw.At u q1 #[v1, .int .i64 a, .int .i64 b] 38 ∧ OwR base v1 l u ∧ w.heap.size ≤ base ∧ ∀ k, v0.ownBlock = some k → k < base
theorem J2.up {w u u' : World} {q0 q1 base : Nat} {v0 v1 : Value} {l : List Ln} {a b : Int} (h : J2 w q0 v0 q1 v1 base l a b u) (hb : Below u.heap.size u u') : J2 w q0 v0 q1 v1 base l a b u' := ⟨h.1.up hb, h.2.1.up hb, h.2.2.1.up hb, h.2.2.2⟩
/-- the program's answer is marked -/
def J3 (w : World) (q0 : Nat) (v0 : Value) (q1 : Nat) (v1 : Value) (l : List Ln) (a b : Int) (u : World) : Prop := J1 w q0 v0 l a b u ∧ rw.At u q1 #[v1, .int .i64 a, .int .i64 b] 38 ∧ Mkd v1 l.length u
theorem J3.up {w u u' : World} {q0 q1 : Nat} {v0 v1 : Value} {l : List Ln} {a b : Int} (h : J3 w q0 v0 q1 v1 l a b u) (hb : Below u.heap.size u u') : J3 w q0 v0 q1 v1 l a b u' := ⟨h.1.up hb, h.2.1.up hb, h.2.2.up hb⟩
theorem at_kept {u u' : World} {q : Nat} {cs : Array Value} {T : TypeId} {row : Option Nat} (h : rw.At u q cs T) (hg : u.grownBy u' row) (hn : row ≠ some q) : rw.At u' q cs T := (hg.block _ h.lt fun e => hn e.symm).trans h
theorem po_ne : (38 : TypeId) ≠ 26 := by decide
theorem J2.mark {w u u' : World} {q0 q1 base : Nat} {v0 v1 : Value} {l : List Ln} {a b : Int} (h : J2 w q0 v0 q1 v1 base l a b u) (hg : u.grownBy u' v1.ownBlock) (hm : Mkd v1 l.length u') : J3 w q0 v0 q1 v1 l a b u' := by
  obtain ⟨⟨h1, h2, h3, h4⟩, h5, h6, h7, h8⟩ := h
  have n0 : v1.ownBlock ≠ some q0 := h6.other po_ne h2
  have n1 : v1.ownBlock ≠ some q1 := h6.other po_ne h5
  have hv : v0.ownBlock = none ∨ v0.ownBlock ≠ v1.ownBlock := by
    by_cases e : v0.ownBlock = none
    · exact .inl e
    · obtain ⟨k, hk⟩ := Option.ne_none_iff_exists'.1 e
      refine .inr fun e2 => ?_
      obtain ⟨hb, _⟩ := h6.block k (e2.symm.trans hk)
      have := h8 k hk
      omega
  have hsz := h1.size
  have hbl : Below w.heap.size w u' := ⟨hg.os.trans h1.os, hg.tape.trans h1.tape, hg.output.trans h1.output, Nat.le_trans hsz hg.size, fun k hk => (hg.block k (Nat.lt_of_lt_of_le hk hsz) (fun e => by obtain ⟨hb, _⟩ := h6.block k e.symm; omega)).trans (h1.block k hk)⟩
  exact ⟨⟨hbl, at_kept h2 hg n0, World.ownsRow.kept h3 hg hv, h4⟩, at_kept h5 hg n1, hm⟩
set_option maxRecDepth 20000 in
set_option maxHeartbeats 8000000 in
theorem lawPolicyRead (w : World) (t : ByteArray) (ht : t.size ≤ maxLen) :
    Calls Tryd.prog 6 #[.string t] w fun r w' => r = .returned (.bool true) ∧ Below w.heap.size w w' := by
  have HB0 : Hid (Below w.heap.size w w) := Below.refl _ _
  unfold maxLen at ht
  by_cases hsz : 1048576 < t.size
  · have h1 : (1048576 : Int) < t.size := by omega
    go_enter Tryd.func6, Tryd.ntmps6
    go_wp2
    go_ret
    exact ⟨rfl, HB0.out⟩
  · have h1 : ¬ (1048576 : Int) < t.size := by omega
    have ht1 : t.size ≤ 1048576 := by omega
    go_enter Tryd.func6, Tryd.ntmps6
    go_wp2_with (go_at_call 20; fail)
    refine (readM_any t w ht1).mono ?_
    rintro r u1 ⟨l, v0, a, b, rfl, ho, hb, hv⟩
    have HO : Hid (OutIs t l a b) := ho
    have hl := ho.short
    have i : J1 w u1.heap.size v0 l a b (u1.alloc (.cells #[v0, .int .i64 a, .int .i64 b] 38)) := ⟨hb.alloc hb.size _, rw.At.new _ _ _, hv.up (rw.up_alloc _ _), hb.size⟩
    obtain ⟨p0, c0, hv0⟩ := hv.shape
    subst hv0
    clear ho hb hv HB0
    go_wp2_with (go_at_call 21; fail)
    obtain ⟨q0, hq0⟩ : ∃ q, q = u1.heap.size := ⟨_, rfl⟩
    rw [← hq0] at i ⊢
    refine calls_w (J1 w q0 (.slice p0 l.length c0) l a b) i ?_
    clear i hq0
    intro u i
    refine (readI_any t u ht1).mono ?_
    rintro r u2 ⟨l', v1, a', b', rfl, ho, hb, hv⟩
    obtain ⟨rfl, rfl, rfl⟩ := HO.out.uniq ho
    obtain ⟨p1, c1, hv1⟩ := hv.shape
    subst hv1
    have hb8 : ∀ k, (Value.slice p0 l.length c0).ownBlock = some k → k < u.heap.size + 1 := fun k hk => by obtain ⟨_, cur, hc⟩ := i.2.2.1.block k hk; exact Nat.lt_succ_of_lt (heap_lt hc)
    have i2 : J2 w q0 (.slice p0 l.length c0) u2.heap.size (.slice p1 l.length c1) (u.heap.size + 1) l a b (u2.alloc (.cells #[.slice p1 l.length c1, .int .i64 a, .int .i64 b] 38)) :=
      ⟨(i.up hb).up (rw.up_alloc _ _), rw.At.new _ _ _, hv.up (rw.up_alloc _ _), Nat.le_succ_of_le i.1.size, hb8⟩
    obtain ⟨q1, hq1⟩ : ∃ q, q = u2.heap.size := ⟨_, rfl⟩
    obtain ⟨base, hbs⟩ : ∃ q, q = u.heap.size + 1 := ⟨_, rfl⟩
    rw [← hq1, ← hbs] at i2
    have e0 := i2.1.2.1.cell 0
    have e1 := i2.1.2.1.cell 1
    have e2 := i2.1.2.1.cell 2
    have g0 := i2.2.1.cell 0
    have g1 := i2.2.1.cell 1
    have g2 := i2.2.1.cell 2
    clear ho hb hv hb8 i hbs
    have HQ1 : Hid (q1 = u2.heap.size) := hq1
    rw [hq1] at g0 g1 g2
    clear hq1
    go_wp2_with (go_at_call 22; fail)
    rw [← HQ1.out]
    refine calls_w (J2 w q0 (.slice p0 l.length c0) q1 (.slice p1 l.length c1) base l a b) i2 ?_
    clear i2 HQ1 e0 e1 e2 g0 g1 g2
    intro u i
    have hlm : l.length ≤ maxLen := Nat.le_trans hl (by decide)
    refine (eqOut_any _ _ a b l u hlm i.2.2.1.slice i.1.2.2.1.slice).mono ?_
    rintro r u3 ⟨rfl, hb⟩
    replace i := i.up hb
    clear hb
    have g0 := i.2.1.cell 0
    have g1 := i.2.1.cell 1
    have g2 := i.2.1.cell 2
    go_wp2_with (go_at_call 23; fail)
    refine (markOut_any _ a b l u3 hl i.2.2.1).mono ?_
    rintro r u4 ⟨rfl, hg, hm⟩
    have i3 := i.mark hg hm
    clear i hg hm g0 g1 g2
    have g0 := i3.2.1.cell 0
    have g1 := i3.2.1.cell 1
    have g2 := i3.2.1.cell 2
    go_wp2_with (go_at_call 24; fail)
    refine (heldOut_any _ a b l.length u4 hl i3.2.2).mono ?_
    rintro r u5 ⟨rfl, hb⟩
    replace i3 := i3.up hb
    clear hb g0 g1 g2
    have hn0 : ¬ 4 * (l.length : Int) + 1 < 0 := by omega
    go_wp2_with (go_at_call 21; fail)
    refine (readI_any t u5 ht1).mono ?_
    rintro r u6 ⟨l', v2, a', b', rfl, ho, hb, hv⟩
    obtain ⟨rfl, rfl, rfl⟩ := HO.out.uniq ho
    obtain ⟨p2, c2, hv2⟩ := hv.shape
    subst hv2
    have i4 : J3 w q0 (.slice p0 l.length c0) q1 (.slice p1 l.length c1) l a b (u6.alloc (.cells #[.slice p2 l.length c2, .int .i64 a, .int .i64 b] 38)) := (i3.up hb).up (rw.up_alloc _ _)
    have hv4 := hv.up (rw.up_alloc u6 (.cells #[.slice p2 l.length c2, .int .i64 a, .int .i64 b] 38))
    have hs2 := hv4.slice
    clear ho hb hv i3 HO hv4
    have e0 := i4.1.2.1.cell 0
    have e1 := i4.1.2.1.cell 1
    have e2 := i4.1.2.1.cell 2
    go_wp2_with (go_at_call 22; fail)
    refine (eqOut_any _ _ a b l _ hlm hs2 i4.1.2.2.1.slice).mono ?_
    rintro r u7 ⟨rfl, hb⟩
    replace i4 := i4.up hb
    clear hb hs2 e0 e1 e2
    have g0 := i4.2.1.cell 0
    have g1 := i4.2.1.cell 1
    have g2 := i4.2.1.cell 2
    go_wp2_with (go_at_call 24; fail)
    refine (heldOut_any _ a b l.length u7 hl i4.2.2).mono ?_
    rintro r u8 ⟨rfl, hb⟩
    have HF : Hid (Below w.heap.size w u8) := (i4.up hb).1.1
    clear hb i4 g0 g1 g2
    go_wp2
    go_ret
    exact ⟨rfl, HF.out⟩
end Go.Proofs.YtndjjhcdnlkekaaDoor.cu
