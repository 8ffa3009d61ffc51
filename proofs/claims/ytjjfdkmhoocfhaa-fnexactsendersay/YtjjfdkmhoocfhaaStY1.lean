/-
  What a sender says: the program's SenderSay. No condition.
-/
import Derived.Test.YtjjfdkmhoocfhaaStQo
import Derived.Test.YtjjfdkmhoocfhaaStE
namespace Go.Proofs.Ytjjfdkmhoocfhaa.st
open Go.ChangeShapes Go.WideShapes Go.ChangeAt Go.RowKit
open Go.Proofs.Ytjjfdkmhoocfhaa.wi (heap_lt calls_w wp_w)
open Classical
set_option linter.unusedVariables false

theorem DeltaV.shape {m : Int} {a : ByteArray} {n : Int} {b : ByteArray} {v : Value} (h : DeltaV m a n b v) : ∃ x y z t, v = .agg #[.int .i64 x, .int .i64 y, .int .i64 z, .string t] := by
  by_cases s : StR m a ∧ StR n b
  · exact ⟨_, _, _, _, h.1 s.1 s.2⟩
  · exact ⟨_, _, _, _, h.2 s⟩
/-- what SenderSay tells -/
def SayV (l : List Ln) (v : Value) : Prop := (SndR l → v = .agg #[.int .i64 (l.getD 0 ln0).1, .int .i64 (l.getD (l.length - 1) ln0).1, .int .i64 (alike (l.getD 0 ln0).2 (l.getD (l.length - 1) ln0).2 : Int), .string ((l.getD (l.length - 1) ln0).2.extract (alike (l.getD 0 ln0).2 (l.getD (l.length - 1) ln0).2) (l.getD (l.length - 1) ln0).2.size)]) ∧ (¬ SndR l → v = .agg #[.int .i64 0, .int .i64 0, .int .i64 0, .string ⟨#[]⟩])
/-- the argument's block and the answer's -/
structure InY (w : World) (v : Value) (u : World) : Prop where
  bel : Below w.heap.size w u
  arg : rw.At u w.heap.size #[v] 49
  res : rw.At u (w.heap.size + 1) #[.int .i64 0, .int .i64 0, .int .i64 0, .string ⟨#[]⟩] 26
theorem InY.new {w : World} {v : Value} : InY w v ((w.alloc (.cells #[v] 49)).alloc (.cells #[.int .i64 0, .int .i64 0, .int .i64 0, .string ⟨#[]⟩] 26)) :=
  ⟨((Below.refl _ _).alloc (Nat.le_refl _) _).alloc (by simp) _, (Below.heap_alloc _ _ _ (by simp)).trans (heap_alloc_new _ _), by have := rw.At.new (w.alloc (.cells #[v] 49)) #[.int .i64 0, .int .i64 0, .int .i64 0, .string ⟨#[]⟩] 26; rwa [World.size_alloc] at this⟩
theorem InY.up {w u u' : World} {v : Value} (h : InY w v u) (hb : Below u.heap.size u u') : InY w v u' := ⟨h.bel.trans (hb.mono h.bel.size), h.arg.up hb, h.res.up hb⟩
theorem InY.cell {w u : World} {v : Value} (h : InY w v u) : u.cell? ⟨w.heap.size, 0, none⟩ = some v := h.arg.cell 0
theorem InY.rcells {w u : World} {v : Value} (h : InY w v u) : u.cell? ⟨w.heap.size + 1, 0, none⟩ = some (.int .i64 0) ∧ u.cell? ⟨w.heap.size + 1, 1, none⟩ = some (.int .i64 0) ∧ u.cell? ⟨w.heap.size + 1, 2, none⟩ = some (.int .i64 0) ∧ u.cell? ⟨w.heap.size + 1, 3, none⟩ = some (.string ⟨#[]⟩) ∧ ∀ k, u.frozen? ⟨w.heap.size + 1, k, none⟩ = false := ⟨h.res.cell 0, h.res.cell 1, h.res.cell 2, h.res.cell 3, fun k => h.res.frozen k⟩
def FinY (w u : World) : Prop := ∀ x0 x1 x2 x3, rw.At (fill u (w.heap.size + 1) x0 x1 x2 x3) (w.heap.size + 1) #[x0, x1, x2, x3] 26 ∧ Below w.heap.size w (fill u (w.heap.size + 1) x0 x1 x2 x3)
theorem InY.fin {w u : World} {v : Value} (h : InY w v u) : FinY w u := fun x0 x1 x2 x3 => ⟨(((h.res.set 0 x0).set 1 x1).set 2 x2).set 3 x3, (((h.bel.setCell (p := ⟨w.heap.size + 1, 0, none⟩) (by simp) x0).setCell (p := ⟨w.heap.size + 1, 1, none⟩) (by simp) x1).setCell (p := ⟨w.heap.size + 1, 2, none⟩) (by simp) x2).setCell (p := ⟨w.heap.size + 1, 3, none⟩) (by simp) x3⟩
set_option maxHeartbeats 4000000 in
theorem sayI_any (v : Value) (l : List Ln) (w : World) (hl : l.length ≤ maxLen) (hz : ∀ r ∈ l, r.2.size ≤ maxLen) (hv : SliceIs w v l) :
    Calls Try.prog 34 #[.agg #[v]] w fun e w' => ∃ r, e = .returned r ∧ SayV l r ∧ Below w.heap.size w w' := by
  have HI : Hid (InY w v ((w.alloc (.cells #[v] 49)).alloc (.cells #[.int .i64 0, .int .i64 0, .int .i64 0, .string ⟨#[]⟩] 26))) := InY.new
  have hs := fun u (hu : Below w.heap.size w u) => sndI_any v l u hl hz (hv.up hu)
  by_cases s1 : SndR l
  · rw [decide_eq_true s1] at hs
    have hne : l ≠ [] := fun e => by have := s1.1.1; rw [e] at this; simp at this
    obtain ⟨b, off, cap, hb, rfl, hR0⟩ := slice_row hv hne
    have hz4 : ∀ k, k < l.length → (l.getD k ln0).2.size ≤ 400 := fun k hk => (s1.2.1 k hk).2
    go_enter Try.func34, Try.ntmps34
    go_wp2_with (go_at_call 22; fail)
    refine calls_w (InY w (.slice (some ⟨b, off, none⟩) l.length cap)) HI.out ?_
    clear HI
    intro u i
    refine (hs u i.bel).mono ?_
    rintro r u1 ⟨rfl, hb1⟩
    replace i := i.up hb1
    clear hb1 hs
    have x0 := i.cell
    go_wp2_with (go_at_call 51; fail)
    refine (queue_any b off cap l u1 s1.1.2 hz4 (Nat.lt_of_lt_of_le hb i.bel.size) (hR0.below i.bel hb)).mono ?_
    rintro r u2 ⟨q, vq, rfl, hq⟩
    have j := i.up hq.bel
    clear i x0
    obtain ⟨g, o2, c2, hg, rfl, hR2⟩ := slice_row hq.own.slice hne
    have hln : 0 < l.length := s1.1.1
    have hl9 : l.length ≤ 1000 := Nat.le_trans s1.1.2 (by decide)
    have sa := s1.2.1 0 hln
    have sb := s1.2.1 (l.length - 1) (by omega)
    have ha := hz4 0 hln
    have hbb := hz4 (l.length - 1) (by omega)
    have HV : Hid (∀ r, DeltaV (l.getD 0 ln0).1 (l.getD 0 ln0).2 (l.getD (l.length - 1) ln0).1 (l.getD (l.length - 1) ln0).2 r → SayV l r) := fun r hr => ⟨fun _ => hr.1 sa sb, fun h => absurd s1 h⟩
    have hf := fun u (hu : Below u2.heap.size u2 u) => first_any q g o2 c2 l u hl9 hln (Nat.lt_of_lt_of_le hg hu.size) (hq.box.up hu) (hR2.below hu hg)
    have ht := fun u (hu : Below u2.heap.size u2 u) => last_any q g o2 c2 l u hl9 hln (Nat.lt_of_lt_of_le hg hu.size) (hq.box.up hu) (hR2.below hu hg)
    generalize (l.getD 0 ln0).1 = a1 at *
    generalize (l.getD 0 ln0).2 = a2 at *
    generalize (l.getD (l.length - 1) ln0).1 = b1 at *
    generalize (l.getD (l.length - 1) ln0).2 = b2 at *
    clear hq hR2 hR0 sa sb s1 hz4 hz hv hg
    go_wp2_with (go_at_call 54; fail)
    refine (hf u2 (Below.refl _ _)).mono ?_
    rintro r u3 ⟨rfl, hb3⟩
    have j3 := j.up hb3
    have ht3 := ht u3 hb3
    clear hf ht j hb3
    go_wp2_with (go_at_call 52; fail)
    refine ht3.mono ?_
    rintro r u4 ⟨rfl, hb4⟩
    have j4 := j3.up hb4
    clear ht3 j3 hb4
    go_wp2_with (go_at_call 12; fail)
    refine (deltaOfI_any a1 a2 b1 b2 u4 (Nat.le_trans ha (by decide)) (Nat.le_trans hbb (by decide))).mono ?_
    rintro r u5 ⟨y, rfl, hy, hb5⟩
    have j5 := j4.up hb5
    have HV2 : Hid (SayV l y) := HV.out y hy
    obtain ⟨X, Y, Z, T, rfl⟩ := DeltaV.shape hy
    clear hy HV j4 hb5
    obtain ⟨r0, r1, r2, r3, r4⟩ := j5.rcells
    have HD : Hid _ := j5.fin (.int .i64 X) (.int .i64 Y) (.int .i64 Z) (.string T)
    clear j5
    go_wp2
    obtain ⟨d1, d2⟩ := HD.out
    exact bodyPost_ret (results_cell_row Try.results34 _ _ (w.heap.size + 1) _ #[.int .i64 X, .int .i64 Y, .int .i64 Z, .string T] _ _ rfl d1 Try.underlying26 rfl infoU) rfl ⟨_, rfl, HV2.out, d2⟩
  · rw [decide_eq_false s1] at hs
    have HV : Hid (SayV l (.agg #[.int .i64 0, .int .i64 0, .int .i64 0, .string ⟨#[]⟩])) := ⟨fun h => absurd h s1, fun _ => rfl⟩
    clear s1
    go_enter Try.func34, Try.ntmps34
    go_wp2_with (go_at_call 22; fail)
    refine calls_w (InY w v) HI.out ?_
    clear HI
    intro u i
    refine (hs u i.bel).mono ?_
    rintro r u1 ⟨rfl, hb⟩
    replace i := i.up hb
    clear hb hs
    obtain ⟨r0, r1, r2, r3, r4⟩ := i.rcells
    have HD : Hid _ := i.fin (.int .i64 0) (.int .i64 0) (.int .i64 0) (.string ⟨#[]⟩)
    clear i hv
    go_wp2
    obtain ⟨d1, d2⟩ := HD.out
    exact bodyPost_ret (results_cell_row Try.results34 _ _ (w.heap.size + 1) _ #[.int .i64 0, .int .i64 0, .int .i64 0, .string ⟨#[]⟩] _ _ rfl d1 Try.underlying26 rfl infoU) rfl ⟨_, rfl, HV.out, d2⟩
end Go.Proofs.Ytjjfdkmhoocfhaa.st
