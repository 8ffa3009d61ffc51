/-
  The rule that a line is, as the model reads it. No condition.
-/
import Derived.Test.YtndjjhcdnlkekaaDoorCu4
import Derived.Test.YtndjjhcdnlkekaaDoorCu2
import Derived.Laws.Rows
namespace Go.Proofs.YtndjjhcdnlkekaaDoor.cu
open Go.ChangeShapes Go.WideShapes Go.ChangeAt Go.RowKit
open Go.Proofs.YtndjjhcdnlkekaaDoor.gb (bat bat_eq GlobR)
open Go.Proofs.YtndjjhcdnlkekaaDoor.rl
open Go.Proofs.YtndjjhcdnlkekaaDoor.wi (heap_lt calls_w wp_w)
open Classical
set_option linter.unusedVariables false

/-- the model's rule of a line: any right rule whose line it is, is this one -/
def ModIs (t : ByteArray) (x : Ln) : Prop := ∀ y, LnR y → bare y = t → y = x
/-- a text cut at its first blank -/
def WordAt (s a b : ByteArray) : Prop := (s = a ++ one 32 ++ b ∧ Free a 32) ∨ (Free s 32 ∧ a = s ∧ b = ⟨#[]⟩)
theorem WordOut.at {s : ByteArray} {e : Ending} (h : WordOut s e) : ∃ a b, e = .returned (.tuple #[.string a, .string b]) ∧ WordAt s a b ∧ a.size ≤ s.size ∧ b.size ≤ s.size := by
  rcases h with ⟨i, hi, rfl⟩ | ⟨hn, rfl⟩
  · have hc := first_cut (c := 32) hi
    exact ⟨_, _, rfl, .inl hc, by simp; omega, by simp⟩
  · exact ⟨_, _, rfl, .inr ⟨free_of (c := 32) hn, rfl, rfl⟩, Nat.le_refl _, Nat.zero_le _⟩
theorem WordAt.of {s a b a' b' : ByteArray} (h : WordAt s a b) (hs : s = a' ++ one 32 ++ b') (hf : Free a' 32) : a = a' ∧ b = b' := by
  rcases h with ⟨h1, h2⟩ | ⟨h1, _, _⟩
  · exact cutU h2 hf (h1.symm.trans hs)
  · refine absurd ?_ h1
    rw [hs]
    simp [one]
theorem known_word {y : Ln} (hy : LnR y) : (y.1 = 0 ∧ y.2.1 = 0 ∧ bare y = denyB ++ one 32 ++ (y.2.2.1 ++ one 32 ++ y.2.2.2)) ∨ (y.1 = 1 ∧ y.2.1 = 0 ∧ bare y = allowB ++ one 32 ++ (y.2.2.1 ++ one 32 ++ y.2.2.2)) ∨ (y.1 = 2 ∧ (1 ≤ y.2.1 ∧ y.2.1 ≤ 3) ∧ bare y = holdW ++ one 32 ++ (decB y.2.1 ++ one 32 ++ (y.2.2.1 ++ one 32 ++ y.2.2.2))) := by
  obtain ⟨k, n, u, g⟩ := y
  have hk : Known k n := hy.1
  rcases hk with ⟨rfl, rfl⟩ | ⟨rfl, rfl⟩ | ⟨rfl, h1⟩
  · exact .inl ⟨rfl, rfl, bare_deny⟩
  · exact .inr (.inl ⟨rfl, rfl, bare_allow⟩)
  · exact .inr (.inr ⟨rfl, h1, bare_hold⟩)
theorem mod_allow {t b u g : ByteArray} (h : WordAt t allowB b) (h2 : WordAt b u g) : ModIs t (1, 0, u, g) := fun y hy he => by
  have f := free_word0
  rcases known_word hy with ⟨e1, e2, e3⟩ | ⟨e1, e2, e3⟩ | ⟨e1, e2, e3⟩
  · exact absurd (h.of (he.symm.trans e3) f.1).1.symm ne_words.1
  · have := (h.of (he.symm.trans e3) f.2.1).2
    obtain ⟨q1, q2⟩ := h2.of this (LnR.user hy)
    obtain ⟨k, n, u', g'⟩ := y
    dsimp only at *
    rw [e1, e2, q1, q2]
  · exact absurd (h.of (he.symm.trans e3) f.2.2.1).1 ne_words.2.2
theorem mod_hold {t b m b2 u g : ByteArray} {n : Int} (h : WordAt t holdW b) (h1 : WordAt b m b2) (h2 : WordAt b2 u g) (hn : ∀ n', 1 ≤ n' ∧ n' ≤ 3 → m = decB n' → n = n') : ModIs t (2, n, u, g) := fun y hy he => by
  have f := free_word0
  rcases known_word hy with ⟨e1, e2, e3⟩ | ⟨e1, e2, e3⟩ | ⟨e1, e2, e3⟩
  · exact absurd (h.of (he.symm.trans e3) f.1).1.symm ne_words.2.1
  · exact absurd (h.of (he.symm.trans e3) f.2.1).1.symm ne_words.2.2
  · have e4 := (h.of (he.symm.trans e3) f.2.2.1).2
    obtain ⟨e5, e6⟩ := h1.of e4 (f.2.2.2 _)
    obtain ⟨q1, q2⟩ := h2.of e6 (LnR.user hy)
    have e7 := hn _ e2 e5
    obtain ⟨k, n', u', g'⟩ := y
    dsimp only at *
    rw [e1, e7, q1, q2]
theorem mod_else {t a b u g : ByteArray} (h : WordAt t a b) (h2 : WordAt b u g) (n1 : a ≠ allowB) (n2 : a ≠ holdW) : ModIs t (0, 0, u, g) := fun y hy he => by
  have f := free_word0
  rcases known_word hy with ⟨e1, e2, e3⟩ | ⟨e1, e2, e3⟩ | ⟨e1, e2, e3⟩
  · have := (h.of (he.symm.trans e3) f.1).2
    obtain ⟨q1, q2⟩ := h2.of this (LnR.user hy)
    obtain ⟨k, n, u', g'⟩ := y
    dsimp only at *
    rw [e1, e2, q1, q2]
  · exact absurd (h.of (he.symm.trans e3) f.2.1).1 n1
  · exact absurd (h.of (he.symm.trans e3) f.2.2.1).1 n2
theorem digit_of {m : ByteArray} {n : Int} (hn : 1 ≤ n ∧ n ≤ 3) (h : m = decB n) : ∃ hz : 0 < m.size, ((m[0]'hz).toNat : Int) - 48 = n := by
  rcases (show n = 1 ∨ n = 2 ∨ n = 3 by omega) with rfl | rfl | rfl <;> subst h <;> exact ⟨by decide, by decide⟩
/-- the rule at work, in a block of its own -/
def InM (w : World) (k n : Int) (u : World) : Prop := Below w.heap.size w u ∧ rw.At u w.heap.size #[.int .i64 0, .int .i64 0, .string ⟨#[]⟩, .string ⟨#[]⟩] 26 ∧ rw.At u (w.heap.size + 1) #[.int .i64 k, .int .i64 n, .string ⟨#[]⟩, .string ⟨#[]⟩] 26
theorem InM.up {w u u' : World} {k n : Int} (h : InM w k n u) (hb : Below u.heap.size u u') : InM w k n u' := ⟨h.1.trans (hb.mono h.1.size), h.2.1.up hb, h.2.2.up hb⟩
theorem InM.new (w : World) : InM w 0 0 ((w.alloc (.cells #[.int .i64 0, .int .i64 0, .string ⟨#[]⟩, .string ⟨#[]⟩] 26)).alloc (.cells #[.int .i64 0, .int .i64 0, .string ⟨#[]⟩, .string ⟨#[]⟩] 26)) :=
  ⟨((Below.refl _ _).alloc (Nat.le_refl _) _).alloc (by simp) _, (rw.At.new w _ _).up (rw.up_alloc _ _), by have h := rw.At.new (w.alloc (.cells #[.int .i64 0, .int .i64 0, .string ⟨#[]⟩, .string ⟨#[]⟩] 26)) #[.int .i64 0, .int .i64 0, .string ⟨#[]⟩, .string ⟨#[]⟩] 26; rwa [World.size_alloc] at h⟩
theorem InM.kind {w u : World} {k n : Int} (h : InM w k n u) (m : Int) : InM w m n (u.setCell ⟨w.heap.size + 1, 0, none⟩ (.int .i64 m)) :=
  ⟨h.1.setCell (Nat.le_succ _) _, h.2.1.far (Nat.ne_of_lt (Nat.lt_succ_self _)) _ _, h.2.2.set 0 _⟩
theorem InM.need {w u : World} {k n : Int} (h : InM w k n u) (m : Int) : InM w k m (u.setCell ⟨w.heap.size + 1, 1, none⟩ (.int .i64 m)) :=
  ⟨h.1.setCell (Nat.le_succ _) _, h.2.1.far (Nat.ne_of_lt (Nat.lt_succ_self _)) _ _, h.2.2.set 1 _⟩
def tolm (u : World) (q : Nat) (A B : Int) (x y : ByteArray) : World := (((((u.setCell ⟨q + 1, 2, none⟩ (.string x)).setCell ⟨q + 1, 3, none⟩ (.string y)).setCell ⟨q, 0, none⟩ (.int .i64 A)).setCell ⟨q, 1, none⟩ (.int .i64 B)).setCell ⟨q, 2, none⟩ (.string x)).setCell ⟨q, 3, none⟩ (.string y)
theorem InM.fin {w u : World} {k n : Int} (h : InM w k n u) (x y : ByteArray) : Below w.heap.size w (tolm u w.heap.size k n x y) ∧ rw.At (tolm u w.heap.size k n x y) w.heap.size #[.int .i64 k, .int .i64 n, .string x, .string y] 26 := by
  have hp : w.heap.size ≠ w.heap.size + 1 := Nat.ne_of_lt (Nat.lt_succ_self _)
  exact ⟨(((((h.1.setCell (Nat.le_succ _) _).setCell (Nat.le_succ _) _).setCell (Nat.le_refl _) _).setCell (Nat.le_refl _) _).setCell (Nat.le_refl _) _).setCell (Nat.le_refl _) _, ((((((h.2.1.far hp _ _).far hp _ _).set 0 _).set 1 _).set 2 _).set 3 _)⟩
theorem InM.cells {w u : World} {k n : Int} (h : InM w k n u) : (u.cell? ⟨w.heap.size + 1, 0, none⟩ = some (.int .i64 k) ∧ u.cell? ⟨w.heap.size + 1, 1, none⟩ = some (.int .i64 n) ∧ u.cell? ⟨w.heap.size + 1, 2, none⟩ = some (.string ⟨#[]⟩) ∧ u.cell? ⟨w.heap.size + 1, 3, none⟩ = some (.string ⟨#[]⟩)) ∧ ∀ k, u.frozen? ⟨w.heap.size + 1, k, none⟩ = false :=
  ⟨⟨h.2.2.cell 0, h.2.2.cell 1, h.2.2.cell 2, h.2.2.cell 3⟩, fun k => h.2.2.frozen k⟩
theorem InM.rcells {w u : World} {k n : Int} (h : InM w k n u) : (u.cell? ⟨w.heap.size, 0, none⟩ = some (.int .i64 0) ∧ u.cell? ⟨w.heap.size, 1, none⟩ = some (.int .i64 0) ∧ u.cell? ⟨w.heap.size, 2, none⟩ = some (.string ⟨#[]⟩) ∧ u.cell? ⟨w.heap.size, 3, none⟩ = some (.string ⟨#[]⟩)) ∧ ∀ k, u.frozen? ⟨w.heap.size, k, none⟩ = false :=
  ⟨⟨h.2.1.cell 0, h.2.1.cell 1, h.2.1.cell 2, h.2.1.cell 3⟩, fun k => h.2.1.frozen k⟩
def ModPost (t : ByteArray) (w : World) (e : Ending) (w' : World) : Prop := (∃ x : Ln, e = .returned (.agg #[.int .i64 x.1, .int .i64 x.2.1, .string x.2.2.1, .string x.2.2.2]) ∧ ModIs t x ∧ x.2.2.1.size ≤ 8000 ∧ x.2.2.2.size ≤ 8000) ∧ Below w.heap.size w w'
theorem eqA_allow : (allowB.toList == [97, 108, 108, 111, 119]) = true := by rw [ByteArray.toList_eq]; decide
theorem eqA_hold : (holdW.toList == [104, 111, 108, 100]) = true := by rw [ByteArray.toList_eq]; decide
theorem neA_allow {a : ByteArray} (h : a ≠ allowB) : (a.toList == [97, 108, 108, 111, 119]) = false := beq_eq_false_iff_ne.2 fun e => h (ext_of (by rw [ByteArray.toList_eq] at e; rw [e]; rfl))
theorem neA_hold {a : ByteArray} (h : a ≠ holdW) : (a.toList == [104, 111, 108, 100]) = false := beq_eq_false_iff_ne.2 fun e => h (ext_of (by rw [ByteArray.toList_eq] at e; rw [e]; rfl))
set_option maxHeartbeats 4000000 in
theorem ruleOf_any (t : ByteArray) (w : World) (ht : t.size ≤ 8000) :
    Calls Tryd.prog 41 #[.string t] w (ModPost t w) := by
  have HI : Hid (InM w 0 0 _) := InM.new w
  go_enter Tryd.func41, Tryd.ntmps41
  go_wp2_with (go_at_call 59; fail)
  refine calls_w (InM w 0 0) HI.out ?_
  clear HI
  intro v1 i
  refine (word_any t v1 (by unfold maxLen; omega)).mono ?_
  rintro r7 v2 ⟨hcu, hb⟩
  obtain ⟨a, b, rfl, hc1, ha, hbz⟩ := hcu.at
  have H1 : Hid (WordAt t a b) := hc1
  replace i := i.up hb
  have hb8 : b.size ≤ 8000 := by omega
  clear hb hcu hc1
  obtain ⟨⟨c0, c1, c2, c3⟩, f0⟩ := i.cells
  by_cases e1 : a = allowB
  · have H1' : Hid (WordAt t allowB b) := by rw [← e1]; exact H1.out
    have d1 : (a.toList == [97, 108, 108, 111, 119]) = true := by rw [e1]; exact eqA_allow
    clear H1 e1 ha
    go_wp2_with (go_at_call 59; fail)
    refine calls_w (InM w 1 0) (i.kind 1) ?_
    clear i c0 c1 c2 c3 f0
    intro v5 i
    refine (word_any b v5 (by unfold maxLen; omega)).mono ?_
    rintro r7 v6 ⟨hcu, hb⟩
    obtain ⟨x8, y8, rfl, hc8, hx8, hy8⟩ := hcu.at
    have H2 : Hid (WordAt b x8 y8) := hc8
    replace i := i.up hb
    have hx9 : x8.size ≤ 8000 := by omega
    have hy9 : y8.size ≤ 8000 := by omega
    clear hb hcu hc8 hx8 hy8
    have HL : Hid (ModIs t (1, 0, x8, y8)) := mod_allow H1'.out H2.out
    clear H1' H2 d1
    have HF : Hid _ := i.fin x8 y8
    obtain ⟨⟨c0, c1, c2, c3⟩, f0⟩ := i.cells
    obtain ⟨⟨r0, r1, r2, r3⟩, f1⟩ := i.rcells
    clear i
    go_wp2
    obtain ⟨d8, d9⟩ := HF.out
    exact bodyPost_ret (results_cell_row Tryd.results41 _ _ w.heap.size _ #[.int .i64 1, .int .i64 0, .string x8, .string y8] _ _ rfl d9 Tryd.underlying26 rfl infoIR) rfl ⟨⟨(1, 0, x8, y8), rfl, HL.out, hx9, hy9⟩, d8⟩
  · have d1 : (a.toList == [97, 108, 108, 111, 119]) = false := neA_allow e1
    by_cases e2 : a = holdW
    · have H1' : Hid (WordAt t holdW b) := by rw [← e2]; exact H1.out
      have d2 : (a.toList == [104, 111, 108, 100]) = true := by rw [e2]; exact eqA_hold
      clear H1 e1 e2 ha
      go_wp2_with (go_at_call 59; fail)
      refine calls_w (InM w 2 0) (i.kind 2) ?_
      clear i c0 c1 c2 c3 f0
      intro v3 i
      refine (word_any b v3 (by unfold maxLen; omega)).mono ?_
      rintro r7 v4 ⟨hcu, hb⟩
      obtain ⟨m, b2, rfl, hc2, hm, hb2z⟩ := hcu.at
      have H2 : Hid (WordAt b m b2) := hc2
      replace i := i.up hb
      have hb9 : b2.size ≤ 8000 := by omega
      clear hb hcu hc2
      obtain ⟨⟨c0, c1, c2, c3⟩, f0⟩ := i.cells
      by_cases e3 : m.size = 1
      · have hz : 0 < m.size := by omega
        have hlt : m[0].toNat < 256 := UInt8.toNat_lt _
        have d3 : IntKind.i64.wrap ((m[0].toNat : Int) - 48) = (m[0].toNat : Int) - 48 := by rw [IntKind.wrap_i64]; omega
        have d4 : IntKind.i64.wrap (m[0].toNat : Int) = (m[0].toNat : Int) := by rw [IntKind.wrap_i64]; omega
        have HN : Hid (∀ n', 1 ≤ n' ∧ n' ≤ 3 → m = decB n' → (m[0].toNat : Int) - 48 = n') := fun n' h h' => (digit_of h h').2
        generalize hd : (m[0].toNat : Int) = d at *
        clear hm hb2z
        go_wp2_with (go_at_call 59; fail)
        refine calls_w (InM w 2 (d - 48)) (i.need (d - 48)) ?_
        clear i c0 c1 c2 c3 f0
        intro v5 i
        refine (word_any b2 v5 (by unfold maxLen; omega)).mono ?_
        rintro r7 v6 ⟨hcu, hb⟩
        obtain ⟨x8, y8, rfl, hc8, hx8, hy8⟩ := hcu.at
        have H3 : Hid (WordAt b2 x8 y8) := hc8
        replace i := i.up hb
        have hx9 : x8.size ≤ 8000 := by omega
        have hy9 : y8.size ≤ 8000 := by omega
        clear hb hcu hc8 hx8 hy8
        have HL : Hid (ModIs t (2, d - 48, x8, y8)) := mod_hold H1'.out H2.out H3.out HN.out
        clear H1' H2 H3 HN d1 d2 d3 d4 hd hlt
        have HF : Hid _ := i.fin x8 y8
        obtain ⟨⟨c0, c1, c2, c3⟩, f0⟩ := i.cells
        obtain ⟨⟨r0, r1, r2, r3⟩, f1⟩ := i.rcells
        clear i
        go_wp2
        obtain ⟨d8, d9⟩ := HF.out
        exact bodyPost_ret (results_cell_row Tryd.results41 _ _ w.heap.size _ #[.int .i64 2, .int .i64 (d - 48), .string x8, .string y8] _ _ rfl d9 Tryd.underlying26 rfl infoIR) rfl ⟨⟨(2, (d - 48), x8, y8), rfl, HL.out, hx9, hy9⟩, d8⟩
      · have d3 : ¬ (m.size : Int) = 1 := by omega
        have d4 : ((m.size : Int) == 1) = false := beq_eq_false_iff_ne.2 d3
        have HN : Hid (∀ n', 1 ≤ n' ∧ n' ≤ 3 → m = decB n' → (0 : Int) = n') := fun n' h h' => absurd (by rw [h', decB_size]) e3
        clear hm hb2z
        go_wp2_with (go_at_call 59; fail)
        refine calls_w (InM w 2 0) i ?_
        clear i c0 c1 c2 c3 f0
        intro v5 i
        refine (word_any b2 v5 (by unfold maxLen; omega)).mono ?_
        rintro r7 v6 ⟨hcu, hb⟩
        obtain ⟨x8, y8, rfl, hc8, hx8, hy8⟩ := hcu.at
        have H3 : Hid (WordAt b2 x8 y8) := hc8
        replace i := i.up hb
        have hx9 : x8.size ≤ 8000 := by omega
        have hy9 : y8.size ≤ 8000 := by omega
        clear hb hcu hc8 hx8 hy8
        have HL : Hid (ModIs t (2, 0, x8, y8)) := mod_hold H1'.out H2.out H3.out HN.out
        clear H1' H2 H3 HN d1 d2 d3 d4
        have HF : Hid _ := i.fin x8 y8
        obtain ⟨⟨c0, c1, c2, c3⟩, f0⟩ := i.cells
        obtain ⟨⟨r0, r1, r2, r3⟩, f1⟩ := i.rcells
        clear i
        go_wp2
        obtain ⟨d8, d9⟩ := HF.out
        exact bodyPost_ret (results_cell_row Tryd.results41 _ _ w.heap.size _ #[.int .i64 2, .int .i64 0, .string x8, .string y8] _ _ rfl d9 Tryd.underlying26 rfl infoIR) rfl ⟨⟨(2, 0, x8, y8), rfl, HL.out, hx9, hy9⟩, d8⟩
    · have d2 : (a.toList == [104, 111, 108, 100]) = false := neA_hold e2
      clear ha
      go_wp2_with (go_at_call 59; fail)
      refine calls_w (InM w 0 0) i ?_
      clear i c0 c1 c2 c3 f0
      intro v5 i
      refine (word_any b v5 (by unfold maxLen; omega)).mono ?_
      rintro r7 v6 ⟨hcu, hb⟩
      obtain ⟨x8, y8, rfl, hc8, hx8, hy8⟩ := hcu.at
      have H2 : Hid (WordAt b x8 y8) := hc8
      replace i := i.up hb
      have hx9 : x8.size ≤ 8000 := by omega
      have hy9 : y8.size ≤ 8000 := by omega
      clear hb hcu hc8 hx8 hy8
      have HL : Hid (ModIs t (0, 0, x8, y8)) := mod_else H1.out H2.out e1 e2
      clear H1 H2 d1 d2 e1 e2
      have HF : Hid _ := i.fin x8 y8
      obtain ⟨⟨c0, c1, c2, c3⟩, f0⟩ := i.cells
      obtain ⟨⟨r0, r1, r2, r3⟩, f1⟩ := i.rcells
      clear i
      go_wp2
      obtain ⟨d8, d9⟩ := HF.out
      exact bodyPost_ret (results_cell_row Tryd.results41 _ _ w.heap.size _ #[.int .i64 0, .int .i64 0, .string x8, .string y8] _ _ rfl d9 Tryd.underlying26 rfl infoIR) rfl ⟨⟨(0, 0, x8, y8), rfl, HL.out, hx9, hy9⟩, d8⟩
end Go.Proofs.YtndjjhcdnlkekaaDoor.cu
