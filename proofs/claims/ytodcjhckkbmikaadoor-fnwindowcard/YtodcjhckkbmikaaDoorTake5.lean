/-
  The program's windowWith at every right window and gram of an epoch and a count: too old, taken already, or which window. Condition: the four errors lie in their variables.
-/
import Derived.Test.YtodcjhckkbmikaaDoorTake4
import Derived.Deep.RegionWith
namespace Go.Proofs.YtodcjhckkbmikaaDoor.wi
open Go.ChangeShapes Go.WideShapes Go.ChangeAt Go.RowKit
open Classical
set_option linter.unusedVariables false

/-- the newer one of the two, part by part -/
def newE (e t ep c : Int) : Int := if (e < ep ∨ ep = e ∧ t < c) then ep else e
def newT (e t ep c : Int) : Int := if (e < ep ∨ ep = e ∧ t < c) then c else t
/-- what the window tells of behind the gram -/
def Rest (e t : Int) (s : List Int) (ep c : Int) (e' c' : Int) : Prop := added (Told e t s) ep c e' c' ∧ ¬ Old e' c' (newE e t ep c) (newT e t ep c)
/-- what windowWith answers -/
def WithPost (w : World) (e t : Int) (s : List Int) (ep c : Int) (a3 a4 : Addr) (r : Ending) (w' : World) : Prop :=
  Below w.heap.size w w' ∧ ((Old ep c e t ∧ r = .returned (.tuple #[zeroW, .iface 124 (.pointer (some a3))])) ∨ (¬ Old ep c e t ∧ Told e t s ep c ∧ r = .returned (.tuple #[zeroW, .iface 124 (.pointer (some a4))])) ∨
    (¬ Old ep c e t ∧ ¬ Told e t s ep c ∧ ∃ (v' : Value) (ss : List Int), r = .returned (.tuple #[.agg #[.int .i64 (newE e t ep c), .int .i64 (newT e t ep c), v'], .nilIface]) ∧ w'.ownsRow w.heap.size 2 1 v' ss.length (ss.map (Value.int .i64)) ∧ ss.Pairwise (· < ·) ∧ (∀ x, x ∈ ss ↔ (W64 x ∧ Rest e t s ep c (newE e t ep c) x) ∧ x ≠ newT e t ep c) ∧ ss.length ≤ 18))

/-- what the map holds while the old ones are struck -/
def Mid (M L : Int → Int → Prop) (te tc : Int) : Int → Int → Prop := fun e' c' => M e' c' ∧ (L e' c' ∨ ¬ Old e' c' te tc)
theorem mid_old {M L : Int → Int → Prop} {te tc e c : Int} (h : Old e c te tc) (e' c' : Int) : struck (Mid M L te tc) e c e' c' ↔ Mid M (struck L e c) te tc e' c' := by
  unfold struck Mid
  constructor
  · rintro ⟨⟨a, b⟩, d⟩
    exact ⟨a, b.imp (fun x => ⟨x, d⟩) id⟩
  · rintro ⟨a, b | b⟩
    · exact ⟨⟨a, .inl b.1⟩, b.2⟩
    · exact ⟨⟨a, .inr b⟩, fun hh => b (by rw [hh.1, hh.2]; exact h)⟩
theorem mid_new {M L : Int → Int → Prop} {te tc e c : Int} (h : ¬ Old e c te tc) (e' c' : Int) : Mid M L te tc e' c' ↔ Mid M (struck L e c) te tc e' c' := by
  unfold struck Mid
  constructor
  · rintro ⟨a, b | b⟩
    · by_cases hh : e' = e ∧ c' = c
      · exact ⟨a, .inr (by rw [hh.1, hh.2]; exact h)⟩
      · exact ⟨a, .inl ⟨b, hh⟩⟩
    · exact ⟨a, .inr b⟩
  · rintro ⟨a, b | b⟩
    · exact ⟨a, .inl b.1⟩
    · exact ⟨a, .inr b⟩
theorem struck_twice (L : Int → Int → Prop) (e c e' c' : Int) : struck (struck L e c) e c e' c' ↔ struck L e c e' c' := by
  unfold struck
  exact ⟨fun h => h.1, fun h => ⟨h, h.2⟩⟩
theorem rest_epoch {e t : Int} {s : List Int} {ep c : Int} (ho : ¬ Old ep c e t) (e' c' : Int) (h : Rest e t s ep c e' c') : e' = newE e t ep c := by
  obtain ⟨h1, h2⟩ := h
  unfold Old at ho h2
  unfold newE newT at h2
  unfold newE
  by_cases hn : Newer ep c e t
  · rw [if_pos (show (e < ep ∨ ep = e ∧ t < c) from hn)] at h2 ⊢
    rw [if_pos (show (e < ep ∨ ep = e ∧ t < c) from hn)] at h2
    unfold Newer at hn
    rcases h1 with h1 | ⟨h1, _⟩
    · have := h1.1; omega
    · exact h1
  · rw [if_neg (show ¬ (e < ep ∨ ep = e ∧ t < c) from hn)] at h2 ⊢
    rw [if_neg (show ¬ (e < ep ∨ ep = e ∧ t < c) from hn)] at h2
    unfold Newer at hn
    rcases h1 with h1 | ⟨h1, _⟩
    · exact h1.1
    · omega
theorem new_range {e t ep c : Int} (he : 0 ≤ e ∧ e ≤ 200) (ht : -1 ≤ t ∧ t ≤ 2000) (hep : 0 ≤ ep ∧ ep ≤ 200) (hc : 0 ≤ c ∧ c ≤ 2000) : (0 ≤ newE e t ep c ∧ newE e t ep c ≤ 200) ∧ (-1 ≤ newT e t ep c ∧ newT e t ep c ≤ 2000) := by
  unfold newE newT; split <;> omega
theorem newer_out {e t ep c te tc : Int} (h1 : te = newE e t ep c) (h2 : tc = newT e t ep c) (w : World) :
    Calls Tryd.prog 27 #[gramV ep c, gramV e t] w fun r w' => r = .returned (gramV te tc) ∧ Below w.heap.size w w' := by
  subst h1 h2
  refine (newerOf_any ep c e t w).mono ?_
  rintro r w' ⟨rfl, hb⟩
  refine ⟨?_, hb⟩
  unfold newE newT
  by_cases hn : Newer ep c e t
  · rw [if_pos hn, if_pos hn, if_pos (show (e < ep ∨ ep = e ∧ t < c) from hn), if_pos (show (e < ep ∨ ep = e ∧ t < c) from hn)]
  · rw [if_neg hn, if_neg hn, if_neg (show ¬ (e < ep ∨ ep = e ∧ t < c) from hn), if_neg (show ¬ (e < ep ∨ ep = e ∧ t < c) from hn)]
theorem below_of_alloc {u u' : World} {o : Obj} (hb : Below (u.alloc o).heap.size (u.alloc o) u') : Below u.heap.size u u' := ((Below.refl u.heap.size u).alloc (Nat.le_refl _) o).trans (hb.mono (by simp))
theorem gram_free {u : World} {q : Nat} {cs : Array Value} {T : TypeId} (h : u.heap[q]? = some (.cells cs T (0, 0))) : u.frozen? ⟨q, 0, none⟩ = false ∧ u.frozen? ⟨q, 1, none⟩ = false ∧ u.frozen? ⟨q, 2, none⟩ = false ∧ u.frozen? ⟨q, 3, none⟩ = false := ⟨frozen_of_row _ _ _ _ _ h, frozen_of_row _ _ _ _ _ h, frozen_of_row _ _ _ _ _ h, frozen_of_row _ _ _ _ _ h⟩
theorem below_of_alloc_drew {u u' : World} {o : Obj} (hb : Below (u.alloc o).drew.heap.size (u.alloc o).drew u') : Below u.heap.size u u' := (((Below.refl u.heap.size u).alloc (Nat.le_refl _) o).drew).trans (hb.mono (show u.heap.size ≤ (u.alloc o).heap.size by simp))
theorem block_of_alloc_drew {u u' : World} {o : Obj} (hb : Below (u.alloc o).drew.heap.size (u.alloc o).drew u') : u'.heap[u.heap.size]? = some o := (hb.block _ (show u.heap.size < (u.alloc o).heap.size by simp)).trans (heap_alloc_new u o)
/-- what is known behind the top -/
structure InWt (w : World) (e t : Int) (v : Value) (ep c : Int) (b q : Nat) (te tc : Int) (u : World) : Prop where
  base : InWw w e t v ep c u
  top : u.heap[q]? = some (.cells (gramC te tc) 45 (0, 0))
  qN : w.heap.size + 1 + 1 < q
  qb : q ≠ b
  bN : w.heap.size + 1 + 1 < b
theorem InWt.up {w u u' : World} {e t : Int} {v : Value} {ep c : Int} {b q : Nat} {te tc : Int} (h : InWt w e t v ep c b q te tc u) (hb : Below u.heap.size u u') : InWt w e t v ep c b q te tc u' := ⟨h.base.up hb, (hb.block _ (heap_lt h.top)).trans h.top, h.qN, h.qb, h.bN⟩
theorem InWt.kept {w u u' : World} {e t : Int} {v : Value} {ep c : Int} {b q r : Nat} {te tc : Int} (h : InWt w e t v ep c b q te tc u) (hg : u.grownBy u' (some r)) (hr : w.heap.size + 1 + 1 < r) (hq : q ≠ r) : InWt w e t v ep c b q te tc u' := ⟨h.base.kept hg hr, (hg.block _ (heap_lt h.top) (by simp; omega)).trans h.top, h.qN, h.qb, h.bN⟩

theorem InWw.drew {w u : World} {e t : Int} {v : Value} {ep c : Int} (h : InWw w e t v ep c u) : InWw w e t v ep c u.drew := ⟨h.below.drew, h.win, h.gram, h.res⟩
theorem InWw.cells {w u : World} {e t : Int} {v : Value} {ep c : Int} (h : InWw w e t v ep c u) : u.cell? ⟨w.heap.size, 0, none⟩ = some (.int .i64 e) ∧ u.cell? ⟨w.heap.size, 1, none⟩ = some (.int .i64 t) ∧ u.cell? ⟨w.heap.size, 2, none⟩ = some v ∧
    u.cell? ⟨w.heap.size + 1, 0, none⟩ = some (.int .i64 0) ∧ u.cell? ⟨w.heap.size + 1, 1, none⟩ = some (.int .i64 ep) ∧ u.cell? ⟨w.heap.size + 1, 2, none⟩ = some (.int .i64 c) ∧ u.cell? ⟨w.heap.size + 1, 3, none⟩ = some (.string ⟨#[]⟩) := by
  obtain ⟨a, b, d, _⟩ := win_cells h.win
  obtain ⟨x, y, z, k⟩ := top_cells h.gram
  exact ⟨a, b, d, x, y, z, k⟩
theorem InWt.of_set {w u : World} {e t : Int} {v : Value} {ep c : Int} {b q : Nat} {te tc : Int} {M : Int → Int → Prop} (i : InWw w e t v ep c u) (hG : GMap u b 18 M) (hq : u.heap[q]? = some (.cells (gramC 0 0) 45 (0, 0))) (hx : w.heap.size + 1 + 1 < q ∧ b < q) (hb : w.heap.size + 1 + 1 < b) :
    InWt w e t v ep c b q te tc ((((u.setCell ⟨q, 0, none⟩ (.int .i64 0)).setCell ⟨q, 1, none⟩ (.int .i64 te)).setCell ⟨q, 2, none⟩ (.int .i64 tc)).setCell ⟨q, 3, none⟩ (.string ⟨#[]⟩)) ∧ GMap ((((u.setCell ⟨q, 0, none⟩ (.int .i64 0)).setCell ⟨q, 1, none⟩ (.int .i64 te)).setCell ⟨q, 2, none⟩ (.int .i64 tc)).setCell ⟨q, 3, none⟩ (.string ⟨#[]⟩)) b 18 M := by
  have h1 := heap_setCell_same u q 0 _ _ (.int .i64 0) hq
  have h2 := heap_setCell_same _ q 1 _ _ (.int .i64 te) h1
  have h3 := heap_setCell_same _ q 2 _ _ (.int .i64 tc) h2
  have h4 := heap_setCell_same _ q 3 _ _ (.string ⟨#[]⟩) h3
  have hg : u.grownBy ((((u.setCell ⟨q, 0, none⟩ (.int .i64 0)).setCell ⟨q, 1, none⟩ (.int .i64 te)).setCell ⟨q, 2, none⟩ (.int .i64 tc)).setCell ⟨q, 3, none⟩ (.string ⟨#[]⟩)) (some q) := by
    refine ⟨rfl, rfl, rfl, by simp [World.setCell], fun k _ hne => ?_⟩
    have hk : k ≠ q := fun h => hne (by rw [h])
    rw [heap_setCell_other _ _ _ _ hk, heap_setCell_other _ _ _ _ hk, heap_setCell_other _ _ _ _ hk, heap_setCell_other _ _ _ _ hk]
  exact ⟨⟨i.kept hg hx.1, h4, hx.1, by omega, hb⟩, hG.kept hg (by simp; omega)⟩
theorem InWt.of_alloc {w u : World} {e t : Int} {v : Value} {ep c : Int} {b : Nat} {te tc : Int} {M : Int → Int → Prop} (i : InWw w e t v ep c u) (hG : GMap u b 18 M) (hb : w.heap.size + 1 + 1 < b) :
    InWt w e t v ep c b u.heap.size te tc (u.alloc (.cells (gramC te tc) 45)) ∧ GMap (u.alloc (.cells (gramC te tc) 45)) b 18 M :=
  ⟨⟨i.up ((Below.refl _ _).alloc (Nat.le_refl _) _), heap_alloc_new _ _, heap_lt i.res, (Nat.ne_of_gt hG.lt), hb⟩, hG.kept (World.grownBy_alloc u _ none) (by simp)⟩
/-- what is known while the old ones are struck -/
structure InLp (w : World) (e t : Int) (v : Value) (ep c : Int) (b q r : Nat) (te tc : Int) (M L : Int → Int → Prop) (cnt : Nat) (u : World) : Prop where
  base : InWt w e t v ep c b q te tc u
  rng : GRange u b r 18 (Mid M L te tc) L cnt
  rN : w.heap.size + 1 + 1 < r
  rq : r ≠ q
  rb : r ≠ b
theorem below_of_none {u u' : World} (h : u.grownBy u' none) : Below u.heap.size u u' := ⟨h.os, h.tape, h.output, h.size, fun k hk => h.block k hk (by simp)⟩
theorem mid_start (M : Int → Int → Prop) (te tc e' c' : Int) : M e' c' ↔ Mid M M te tc e' c' := ⟨fun h => ⟨h, .inl h⟩, fun h => h.1⟩
theorem row_shape {u : World} {base : Nat} {e : TypeId} {v : Value} {n : Nat} {xs : List Value} (h : u.ownsRow base e 1 v n xs) : ∃ p k cap, v = .slice p k cap := by
  rcases h.2 with ⟨rfl, _⟩ | ⟨g, cap, cur, rfl, _⟩
  · exact ⟨_, _, _, rfl⟩
  · exact ⟨_, _, _, rfl⟩
theorem InWw.sizes {w u : World} {e t : Int} {v : Value} {ep c : Int} (h : InWw w e t v ep c u) : w.heap.size < u.heap.size ∧ w.heap.size + 1 < u.heap.size ∧ ¬ w.heap.size = u.heap.size ∧ ¬ w.heap.size + 1 = u.heap.size ∧ ¬ u.heap.size = w.heap.size ∧ ¬ u.heap.size = w.heap.size + 1 := by
  have := heap_lt h.res
  omega
theorem told_wf {e t : Int} {s : List Int} (h : RightW e t s) : W64 e ∧ W64 t ∧ ∀ x ∈ s, W64 x := by
  obtain ⟨h1, h2, h3, h4⟩ := h
  refine ⟨w64_of (by omega) (by omega), w64_of (by omega) (by omega), fun x hx => ?_⟩
  have := rightW_mem ⟨h1, h2, h3, h4⟩ hx
  have := low_nonneg t
  exact w64_of (by omega) (by omega)

set_option maxRecDepth 20000 in
set_option maxHeartbeats 8000000 in
theorem with_right (e t : Int) (v : Value) (s : List Int) (ep c : Int) (w : World) (hv : SliceIs w v s) {a1 a2 a3 a4 : Addr} (hE : ei.Errs w a1 a2 a3 a4) (hR : RightW e t s) (hG : RightG 0 ep c 0) :
    Calls Tryd.prog 16 #[.agg #[.int .i64 e, .int .i64 t, v], gramV ep c] w (WithPost w e t s ep c a3 a4) := by
  have HI0 : Hid (InWw w e t v ep c _) := inWw_start w e t v ep c
  have HV : Hid (∀ u, Below w.heap.size w u → SliceIs u v s) := fun u hu => hv.up hu
  have HE : Hid (∀ u, Below w.heap.size w u → ei.Errs u a1 a2 a3 a4) := fun u hu => hE.up hu
  have hs : s.length ≤ maxLen := Nat.le_trans hR.2.2.1 (by decide)
  obtain ⟨we, wt, wss⟩ := told_wf hR
  have ht := hR.2.1
  have wep : W64 ep := w64_of (by have := hG.2.1; omega) (by have := hG.2.1; omega)
  have wcc : W64 c := w64_of (by have := hG.2.2.1; omega) (by have := hG.2.2.1; omega)
  have gc : 1 < w.heap.size := World.block_lt_of_cell? w _ hE.vc
  have gd : 2 < w.heap.size := World.block_lt_of_cell? w _ hE.vd
  clear hv hE
  go_enter Tryd.func16, Tryd.ntmps16
  go_wp2_with (go_at_call 8; fail)
  refine calls_w (InWw w e t v ep c) HI0.out ?_
  clear HI0
  intro u0 i0
  refine (windowI_any e t v s u0 hs (HV.out _ i0.below)).mono ?_
  rintro r w1 ⟨rfl, hb1⟩
  have i1 := i0.up hb1
  clear i0 hb1
  rw [decide_eq_true hR]
  obtain ⟨g0, g1, g2, g3⟩ := top_cells i1.gram
  go_wp2_with (go_at_call 23; fail)
  clear g0 g1 g2 g3
  refine (gramI_any 0 ep c ⟨#[]⟩ w1 (Nat.zero_le _)).mono ?_
  rw [decide_eq_true (show RightG 0 ep c (⟨#[]⟩ : ByteArray).size from hG)]
  rintro r w2 ⟨rfl, hb2⟩
  have i2 := i1.up hb2
  clear i1 hb2
  go_wp2_with fail
  go_cut [24] from 21 (fun b u => b = .bool (decide (Old ep c e t)) ∧ InWw w e t v ep c u)
  case first =>
    obtain ⟨k0, k1, k2, k3, k4, k5, k6⟩ := i2.cells
    replace i2 := i2.drew
    go_region_with (first | (go_at_call 25; (with_reducible refine (topOf_any _ _ _ _).mono ?_); rintro r w3 ⟨rfl, hb3⟩; replace i2 := i2.up hb3; clear hb3 k0 k1 k2 k3 k4 k5 k6; obtain ⟨k0, k1, k2, k3, k4, k5, k6⟩ := i2.cells) | (go_at_call 24; (with_reducible refine (tooOld_any _ _ _ _ _ ht.1 ht.2).mono ?_); rintro r w4 ⟨rfl, hb4⟩; replace i2 := i2.up hb4; clear hb4 k0 k1 k2 k3 k4 k5 k6; obtain ⟨k0, k1, k2, k3, k4, k5, k6⟩ := i2.cells))
    all_goals
      go_wp2_with fail
      go_meet
      case rel => exact ⟨rfl, i2⟩
  case rest =>
    obtain ⟨rfl, i3⟩ := hcut
    clear i2
    by_cases hold : Old ep c e t
    · rw [decide_eq_true hold]
      have vc := (HE.out _ i3.below).vc
      have hres := i3.res
      have HB : Hid (Below w.heap.size w wc) := i3.below
      have HO : Hid (Old ep c e t) := hold
      have n1 : ¬ (w.heap.size + 1 + 1 = 1) := by omega
      have n2 : ¬ (1 = w.heap.size + 1 + 1) := by omega
      clear i3 hold
      obtain ⟨r0, r1, r2, hf⟩ := win_cells hres
      have f0 := hf 0
      have f1 := hf 1
      have f2 := hf 2
      clear hf
      go_wp2
      go_region
      go_wp2
      exact bodyPost_ret (res_two Tryd.results16 _ _ (w.heap.size + 1 + 1) _ _ rfl rfl (set3 hres) rfl) rfl ⟨below_set3 HB.out.drew (by omega), .inl ⟨HO.out, rfl⟩⟩
    · rw [decide_eq_false hold]
      have HO : Hid (¬ Old ep c e t) := hold
      clear hold
      have hw := i3.win
      go_wp2_with (first | (refine wpList_load_row rfl 25 _ rfl w.heap.size rfl _ _ _ _ hw Tryd.underlying25 rfl infoW ?_) | (go_at_call 26; fail))
      clear hw
      refine (takenBy_any e t v s wc hR.2.2.1 (HV.out _ i3.below) we wt wss).mono ?_
      rintro r w5 ⟨b, rfl, hb5, hG5, hbw⟩
      have i5 := i3.up hb5
      have hbN : w.heap.size + 1 + 1 < b := Nat.lt_of_lt_of_le (heap_lt i3.res) hbw
      clear i3 hb5 hbw HV
      have hg := i5.gram
      obtain ⟨k0, k1, k2, k3, k4, k5, k6⟩ := i5.cells
      by_cases hT : Told e t s ep c
      · have HT : Hid (Told e t s ep c) := hT
        clear hT
        have i6 : InWw w e t v ep c (w5.alloc (.cells #[] 60)) := i5.up ((Below.refl _ _).alloc (Nat.le_refl _) _)
        have vd := (HE.out _ i6.below).vd
        have hres := i6.res
        have HB : Hid (Below w.heap.size w (w5.alloc (.cells #[] 60))) := i6.below
        have n1 : ¬ (w.heap.size + 1 + 1 = 2) := by omega
        have n2 : ¬ (2 = w.heap.size + 1 + 1) := by omega
        go_wp2_with (first | (refine wpList_load_row rfl 45 _ rfl (w.heap.size + 1) rfl _ _ _ _ hg Tryd.underlying45 rfl infoG ?_) | (at_lookup; refine wpList_look5 _ rfl _ _ rfl b 17 _ rfl hG5 ep c wep wcc rfl true ⟨fun _ => HT.out, fun _ => rfl⟩ ?_))
        clear hg k0 k1 k2 k3 k4 k5 k6 i5 i6 hG5
        obtain ⟨r0, r1, r2, hf⟩ := win_cells hres
        have f0 := hf 0
        have f1 := hf 1
        have f2 := hf 2
        clear hf
        generalize hW6 : w5.alloc (.cells #[] 60) = w6 at *
        clear hW6
        go_region
        go_wp2
        exact bodyPost_ret (res_two Tryd.results16 _ _ (w.heap.size + 1 + 1) _ _ rfl rfl (set3 hres) rfl) rfl ⟨below_set3 HB.out.drew (by omega), .inr (.inl ⟨HO.out, HT.out, rfl⟩)⟩
      · have HT : Hid (¬ Told e t s ep c) := hT
        have HZ : Hid ((false : Bool) = true ↔ Told e t s ep c) := ⟨fun h => (by cases h), fun h => absurd h hT⟩
        clear hT
        have HI6 : Hid (∀ o, InWw w e t v ep c (w5.alloc o)) := fun o => i5.up ((Below.refl _ _).alloc (Nat.le_refl _) _)
        have hG6 : ∀ o, GMap (w5.alloc o) b 17 (Told e t s) := fun o => hG5.kept (World.grownBy_alloc w5 o none) (by simp)
        have HG6 : Hid (∀ o, GMap (w5.alloc o) b 17 (Told e t s)) := hG6
        have hg6 : (w5.alloc (.cells #[] 60)).heap[w.heap.size + 1]? = some (.cells (gramC ep c) 45 (0, 0)) := (HI6.out _).gram
        clear hG6
        go_wp2_with (first | (at_lookup; refine wpList_look5 _ rfl _ _ rfl b 17 _ rfl hG5 ep c wep wcc rfl false HZ.out ?_) | (at_mapUpdate; refine wpList_put5 _ rfl _ _ _ rfl b 17 _ rfl (HG6.out _) (by omega) ep c wep wcc rfl rfl ?_; intro w7 hG7 hgr7; have i7 := (HI6.out _).kept hgr7 hbN) | (refine wpList_load_row rfl 45 _ rfl (w.heap.size + 1) rfl _ _ _ _ hg Tryd.underlying45 rfl infoG ?_) | (refine wpList_load_row rfl 45 _ rfl (w.heap.size + 1) rfl _ _ _ _ hg6 Tryd.underlying45 rfl infoG ?_) | (go_at_call 25; fail))
        clear hg k0 k1 k2 k3 k4 k5 k6 hg6 HG6 HI6 hG5 i5 hgr7 HZ
        obtain ⟨te, hte⟩ : ∃ x, x = newE e t ep c := ⟨_, rfl⟩
        obtain ⟨tc, htc⟩ : ∃ x, x = newT e t ep c := ⟨_, rfl⟩
        have HTE : Hid (te = newE e t ep c) := hte
        have HTC : Hid (tc = newT e t ep c) := htc
        have HNO : Hid (∀ u, Calls Tryd.prog 27 #[.agg #[.int .i64 0, .int .i64 ep, .int .i64 c, .string ⟨#[]⟩], .agg #[.int .i64 0, .int .i64 e, .int .i64 t, .string ⟨#[]⟩]] u fun r w' => r = .returned (.agg #[.int .i64 0, .int .i64 te, .int .i64 tc, .string ⟨#[]⟩]) ∧ Below u.heap.size u w') := fun u => newer_out hte htc u
        clear hte htc
        go_frame
        go_cut [9] from 41 (fun y u => ∃ q, y = .pointer (some ⟨q, 0, none⟩) ∧ InWt w e t v ep c b q te tc u ∧ GMap u b 18 (added (Told e t s) ep c))
        case first =>
          obtain ⟨k0, k1, k2, k3, k4, k5, k6⟩ := i7.cells
          have HG : GMap w7.drew b 18 (added (Told e t s) ep c) := hG7.kept (show w7.grownBy w7.drew none from ⟨rfl, rfl, rfl, Nat.le_refl _, fun _ _ _ => rfl⟩) (by simp)
          have J7 : Hid (InWw w e t v ep c w7) := i7
          have K7 : Hid (GMap w7 b 18 (added (Told e t s) ep c)) := hG7
          replace i7 := i7.drew
          clear hG7
          obtain ⟨m0, m1, m2, m3, m4, m5⟩ := J7.out.sizes
          go_region_with (first | (go_at_call 25; (with_reducible refine (topOf_any _ _ _ _).mono ?_); rintro r w8 ⟨rfl, hb8⟩; (first | (have hq9' := (hb8.block _ (heap_lt hq9)).trans hq9; replace i7 := i7.up hb8; replace HG := HG.kept (grown_of_below hb8) (by simp); clear hq9 q0 q1 q2 q3 z0 z1 z2 z3; have hq9 := hq9'; clear hq9'; obtain ⟨q0, q1, q2, q3⟩ := top_cells hq9; obtain ⟨z0, z1, z2, z3⟩ := gram_free hq9) | (have hq9 := (hb8.block _ (by simp)).trans (heap_alloc_new _ (.cells (gramC 0 0) 45)); have hqx := And.intro (heap_lt i7.res) HG.lt; have hb8' := below_of_alloc hb8; replace i7 := i7.up hb8'; replace HG := HG.kept (grown_of_below hb8') (by simp); obtain ⟨q0, q1, q2, q3⟩ := top_cells hq9; obtain ⟨z0, z1, z2, z3⟩ := gram_free hq9; clear hb8') | (have hq9 := block_of_alloc_drew hb8; have hqx := And.intro (heap_lt J7.out.res) K7.out.lt; have hb8' := below_of_alloc_drew hb8; replace i7 := J7.out.up hb8'; replace HG := K7.out.kept (grown_of_below hb8') (by simp); obtain ⟨q0, q1, q2, q3⟩ := top_cells hq9; obtain ⟨z0, z1, z2, z3⟩ := gram_free hq9; clear hb8') | (replace i7 := i7.up hb8; replace HG := HG.kept (grown_of_below hb8) (by simp))); clear hb8 k0 k1 k2 k3 k4 k5 k6 m0 m1 m2 m3 m4 m5; obtain ⟨m0, m1, m2, m3, m4, m5⟩ := i7.sizes; obtain ⟨k0, k1, k2, k3, k4, k5, k6⟩ := i7.cells) | (go_at_call 27; (with_reducible refine (HNO.out _).mono ?_); rintro r w9 ⟨rfl, hb9⟩; (first | (have hq9' := (hb9.block _ (heap_lt hq9)).trans hq9; replace i7 := i7.up hb9; replace HG := HG.kept (grown_of_below hb9) (by simp); clear hq9 q0 q1 q2 q3 z0 z1 z2 z3; have hq9 := hq9'; clear hq9'; obtain ⟨q0, q1, q2, q3⟩ := top_cells hq9; obtain ⟨z0, z1, z2, z3⟩ := gram_free hq9) | (have hq9 := (hb9.block _ (by simp)).trans (heap_alloc_new _ (.cells (gramC 0 0) 45)); have hqx := And.intro (heap_lt i7.res) HG.lt; have hb9' := below_of_alloc hb9; replace i7 := i7.up hb9'; replace HG := HG.kept (grown_of_below hb9') (by simp); obtain ⟨q0, q1, q2, q3⟩ := top_cells hq9; obtain ⟨z0, z1, z2, z3⟩ := gram_free hq9; clear hb9') | (have hq9 := block_of_alloc_drew hb9; have hqx := And.intro (heap_lt J7.out.res) K7.out.lt; have hb9' := below_of_alloc_drew hb9; replace i7 := J7.out.up hb9'; replace HG := K7.out.kept (grown_of_below hb9') (by simp); obtain ⟨q0, q1, q2, q3⟩ := top_cells hq9; obtain ⟨z0, z1, z2, z3⟩ := gram_free hq9; clear hb9') | (replace i7 := i7.up hb9; replace HG := HG.kept (grown_of_below hb9) (by simp))); clear hb9 k0 k1 k2 k3 k4 k5 k6 m0 m1 m2 m3 m4 m5; obtain ⟨m0, m1, m2, m3, m4, m5⟩ := i7.sizes; obtain ⟨k0, k1, k2, k3, k4, k5, k6⟩ := i7.cells))
          all_goals
            go_wp2_with fail
            go_meet
            case rel => first | exact ⟨_, rfl, InWt.of_set i7 HG hq9 hqx hbN⟩ | exact ⟨_, rfl, InWt.of_alloc i7 HG hbN⟩
        case rest =>
          obtain ⟨q, rfl, i9, hG9⟩ := hcut
          clear i7 hG7 HNO
          have htr : -1 ≤ tc ∧ tc ≤ 2000 := by rw [HTC.out]; exact (new_range (ep := ep) (c := c) (e := e) hR.1 ht hG.2.1 hG.2.2.1).2
          have hb9 := hG9.lt
          have hq9 := heap_lt i9.top
          have hn9 := heap_lt i9.base.res
          go_wp2_with (at_range; refine wpList_range5 _ rfl _ rfl b 18 _ rfl hG9 ?_; intro w10 cnt hcnt hrg hgr hsz; go_frame)
          obtain ⟨r, hr⟩ : ∃ r, r = wc.heap.size := ⟨_, rfl⟩
          rw [← hr] at hrg hb9 hq9 hn9 ⊢
          obtain ⟨M, hMM⟩ : ∃ M, M = added (Told e t s) ep c := ⟨_, rfl⟩
          have HM : Hid (M = added (Told e t s) ep c) := hMM
          rw [← hMM] at hrg
          have HI : Hid (InLp w e t v ep c b q r te tc M M cnt w10) := ⟨i9.up (below_of_none hgr), hrg.congr (mid_start M te tc) (fun _ _ => Iff.rfl), hn9, by omega, by omega⟩
          clear hG9 hrg hgr hsz hcnt i9 hr hb9 hq9 hn9 hMM
          go_loopw [10] (fun _ u => ∃ L cnt, Hid (InLp w e t v ep c b q r te tc M L cnt u)) (fun _ u => u.rangeLeft b r)
          case atStart => exact ⟨_, _, HI⟩
          case round =>
            clear HI
            obtain ⟨L, cnt, HI⟩ := hrel
            have hrg := HI.out.rng
            go_wp2_with (at_next; refine wpList_next5 _ rfl _ rfl b r 18 _ L cnt rfl hrg ?_ ?_)
            · intro hE
              clear hrg
              have HG : Hid (GMap wr b 18 (Rest e t s ep c)) := HI.out.rng.map.congrW (fun e' c' he' hc' => by
                unfold Rest Mid
                rw [← HTE.out, ← HTC.out, ← HM.out]
                constructor
                · rintro ⟨a, h | h⟩
                  · exact absurd h (hE e' c' he' hc')
                  · exact ⟨a, h⟩
                · rintro ⟨a, h⟩; exact ⟨a, .inr h⟩)
              clear hE
              have i11 := HI.out.base
              clear HI HM
              have ht11 := i11.top
              have hres := i11.base.res
              have HB : Hid (Below w.heap.size w wr) := i11.base.below
              have hwte : W64 te := by
                have := (new_range (ep := ep) (c := c) (e := e) hR.1 ht hG.2.1 hG.2.2.1).1
                rw [← HTE.out] at this
                exact w64_of (by omega) (by omega)
              have HW := windowOf_any te tc b (Rest e t s ep c) wr HG.out (fun e' c' h => by rw [HTE.out]; exact rest_epoch HO.out e' c' h) hwte
              clear HG i11
              go_wp2_with (first | (refine wpList_load_row rfl 45 _ rfl q rfl _ _ _ _ ht11 Tryd.underlying45 rfl infoG ?_) | (go_at_call 28; fail))
              refine HW.mono ?_
              rintro r' w12 ⟨v', ss, rfl, hb12, hown, hrise, hmem, hlen⟩
              clear HW ht11
              have hres2 := (hb12.block _ (heap_lt hres)).trans hres
              have HB2 : Hid (Below w.heap.size w w12) := HB.out.trans (hb12.mono HB.out.size)
              have HOW : Hid (w12.ownsRow (wr.heap.size + 1 + 1 + 1) 2 1 v' ss.length (ss.map (Value.int .i64))) := hown
              have HRI : Hid (ss.Pairwise (· < ·) ∧ (∀ x, x ∈ ss ↔ (W64 x ∧ Rest e t s ep c te x) ∧ x ≠ tc) ∧ ss.length ≤ 18) := ⟨hrise, hmem, hlen⟩
              have HSZ : Hid (w.heap.size + 1 + 1 < wr.heap.size) := heap_lt hres
              clear hb12 hown hrise hmem hlen hres HB
              obtain ⟨p', k', cap', rfl⟩ := row_shape HOW.out
              go_wp2_with (refine wpList_store_row rfl 25 _ _ rfl (w.heap.size + 1 + 1) _ rfl rfl _ _ hres2 infoW (by rfl) (by simp [Value.oneCell']) ?_)
              refine bodyPost_ret (res_two Tryd.results16 _ _ (w.heap.size + 1 + 1) #[.int .i64 te, .int .i64 tc, .slice p' k' cap'] .nilIface rfl rfl (setRow_heap _ _ _ #[.int .i64 te, .int .i64 tc, .slice p' k' cap'] _ _ hres2) rfl) rfl ⟨below_setRow HB2.out (by omega) _, .inr (.inr ⟨HO.out, HT.out, .slice p' k' cap', ss, ?_, ?_, ?_⟩)⟩
              · rw [← HTE.out, ← HTC.out]
              · exact row_mono (row_setRow HOW.out (by have := HSZ.out; omega)) (by have := HSZ.out; omega)
              · rw [← HTE.out, ← HTC.out]; exact HRI.out
            · intro e' c' w11 cnt1 hwe hwc hL hrg1 hlt hgr1 hsz1 hen
              clear hrg
              have i11 := HI.out.base.kept hgr1 HI.out.rN (fun h => HI.out.rq h.symm)
              have HR1 : Hid (∀ o, GRange (w11.alloc o) b r 18 (Mid M L te tc) (struck L e' c') cnt1) := fun o => hrg1.kept (World.grownBy_alloc w11 o none) (by simp) (by simp)
              have HI11 : Hid (∀ o, InWt w e t v ep c b q te tc (w11.alloc o)) := fun o => i11.up ((Below.refl _ _).alloc (Nat.le_refl _) _)
              have HL0 : Hid (wr.rangeLeft b r = cnt) := HI.out.rng.left
              have hT2 := (HI11.out (.cells (gramC e' c') 45)).top
              have hN2 : (w11.alloc (.cells (gramC e' c') 45)).heap[w11.heap.size]? = some (.cells (gramC e' c') 45 (0, 0)) := heap_alloc_new _ _
              have HRN : Hid (w.heap.size + 1 + 1 < r ∧ r ≠ q ∧ r ≠ b) := ⟨HI.out.rN, HI.out.rq, HI.out.rb⟩
              have HRD : Hid (r < w11.heap.size ∧ b < w11.heap.size) := ⟨hrg1.lt, hrg1.map.lt⟩
              clear hsz1 hgr1 HI hrg1 i11
              go_wp2_with (first | (refine wpList_load_row rfl 45 _ rfl q rfl _ _ _ _ hT2 Tryd.underlying45 rfl infoG ?_) | (refine wpList_load_row rfl 45 _ rfl w11.heap.size rfl _ _ _ _ hN2 Tryd.underlying45 rfl infoG ?_) | (go_at_call 24; fail))
              clear hT2
              refine calls_w (fun u => InWt w e t v ep c b q te tc u ∧ GRange u b r 18 (Mid M L te tc) (struck L e' c') cnt1 ∧ u.heap[w11.heap.size]? = some (.cells (gramC e' c') 45 (0, 0))) ⟨HI11.out _, HR1.out _, hN2⟩ ?_
              clear HI11 HR1 hN2
              rintro u11 ⟨i11, hrg1, hN2⟩
              refine (tooOld_any e' c' te tc u11 htr.1 htr.2).mono ?_
              rintro r' w12 ⟨rfl, hb12⟩
              have i12 := i11.up hb12
              have hrg2 := hrg1.kept (grown_of_below hb12) (by simp) (by simp)
              have hN3 := (hb12.block _ (heap_lt hN2)).trans hN2
              clear i11 hrg1 hN2 hb12
              by_cases hold : Old e' c' te tc
              · rw [decide_eq_true hold]
                have HOL : Hid (Old e' c' te tc) := hold
                clear hold
                have HI12 : Hid (InWt w e t v ep c b q te tc w12) := i12
                clear i12
                go_wp2_with (first | (refine wpList_load_row rfl 45 _ rfl w11.heap.size rfl _ _ _ _ hN3 Tryd.underlying45 rfl infoG ?_) | (at_delete; refine wpList_delete5 _ rfl _ _ rfl b r 18 _ _ cnt1 rfl hrg2 e' c' hwe hwc rfl ?_; intro w13 cnt2 hrg3 hle hgr13 hsz13; go_frame))
                have HL1 : Hid (w13.rangeLeft b r = cnt2) := hrg3.left
                have HI2 : Hid (InLp w e t v ep c b q r te tc M (struck L e' c') cnt2 w13) := ⟨HI12.out.kept hgr13 HI12.out.bN HI12.out.qb, hrg3.congr (mid_old HOL.out) (struck_twice L e' c'), HRN.out.1, HRN.out.2.1, HRN.out.2.2⟩
                clear hrg3 hgr13 hsz13 hrg2 hN3
                go_wp2
                refine ⟨⟨_, _, HI2⟩, ?_⟩
                rw [HL1.out, HL0.out]; omega
              · rw [decide_eq_false hold]
                have HL1 : Hid (w12.rangeLeft b r = cnt1) := hrg2.left
                have HI2 : Hid (InLp w e t v ep c b q r te tc M (struck L e' c') cnt1 w12) := ⟨i12, hrg2.congr (mid_new hold) (fun _ _ => Iff.rfl), HRN.out.1, HRN.out.2.1, HRN.out.2.2⟩
                clear i12 hrg2 hN3 hold
                go_wp2
                refine ⟨⟨_, _, HI2⟩, ?_⟩
                rw [HL1.out, HL0.out]; exact hlt
end Go.Proofs.YtodcjhckkbmikaaDoor.wi
