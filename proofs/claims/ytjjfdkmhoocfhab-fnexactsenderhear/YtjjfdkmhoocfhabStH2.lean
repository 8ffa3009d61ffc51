/-
  What a sender hears: the program's SenderHear. No condition.
-/
import Derived.Test.YtjjfdkmhoocfhabStH1
namespace Go.Proofs.Ytjjfdkmhoocfhab.st
open Go.ChangeShapes Go.WideShapes Go.ChangeAt Go.RowKit
open Go.Proofs.Ytjjfdkmhoocfhab.wi (heap_lt calls_w wp_w)
open Classical
set_option linter.unusedVariables false

theorem infoSO : (Try.prog.info? 30).map (·.size) = some 2 := by kernel_rfl
/-- a sender with a code is handed back, its states in a row of their own -/
def OutPost (w : World) (al : List Ln) (cd : Int) (r : Ending) (w' : World) : Prop := ∃ v, r = .returned (.agg #[v, .int .i64 cd]) ∧ Below w.heap.size w w' ∧ OwnX w' v al ∧ ∀ b, v.ownBlock = some b → w.heap.size ≤ b ∧ b < w'.heap.size
/-- what SenderHear tells -/
structure HearS (l : List Ln) (n : Int) (al : List Ln) (cd : Int) : Prop where
  c1 : ¬ SndR l → al = [] ∧ cd = 1
  c2 : SndR l → NoneTo l n l.length → al = [] ∧ cd = 6
  c3 : SndR l → ∀ k, k < l.length → NoneTo l n k → (l.getD k ln0).1 = n → al = l.drop k ∧ cd = 0
theorem OwS.whole {base : Nat} {v : Value} {l : List Ln} {u : World} (h : OwS base v l u) (hl : l ≠ []) : ∃ g cap, v = .slice (some ⟨g, 0, none⟩) l.length cap ∧ l.length ≤ cap ∧ base ≤ g ∧ RowX u g 0 l := by
  rcases OwnX.of h with ⟨h1, _⟩ | ⟨g, off, cap, hv, hr⟩
  · exact absurd h1 hl
  · rcases h.2 with ⟨h1, _⟩ | ⟨g', cap', cur, h1, h2, h3, h4, _⟩
    · rw [hv] at h1; cases h1
    · rw [hv] at h1
      cases h1
      exact ⟨g, cap, hv, h4, h2, hr⟩
theorem RowX.drop {u : World} {g : Nat} {l : List Ln} (h : RowX u g 0 l) (k : Nat) : RowX u g (k * 2) (l.drop k) := by
  obtain ⟨cur, h1, h2⟩ := h
  refine ⟨cur, h1, fun j hj => ?_⟩
  rw [List.length_drop] at hj
  have := h2 (k + j) (by omega)
  have e1 : 0 + (k + j) * 2 = k * 2 + j * 2 := by omega
  have e2 : (l.drop k).getD j ln0 = l.getD (k + j) ln0 := by simp [List.getD]
  rw [e1] at this
  rw [e2]
  exact this
theorem RowX.far {u : World} {g off q : Nat} {l : List Ln} (h : RowX u g off l) (hq : g ≠ q) (k : Nat) (x : Value) : RowX (u.setCell ⟨q, k, none⟩ x) g off l := by
  obtain ⟨cur, h1, h2⟩ := h
  exact ⟨cur, h1.far hq k x, h2⟩
/-- the arguments' blocks and the answer's -/
structure InHr (w : World) (v : Value) (n : Int) (u : World) : Prop where
  bel : Below w.heap.size w u
  arg : rw.At u w.heap.size #[v] 28
  num : rw.At u (w.heap.size + 1) #[.int .i64 n] 2
  res : rw.At u (w.heap.size + 1 + 1) #[.slice none 0 0, .int .i64 0] 30
variable {w u u' : World} {v : Value} {n : Int}
theorem InHr.new : InHr w v n (((w.alloc (.cells #[v] 28)).alloc (.cells #[.int .i64 n] 2)).alloc (.cells #[.slice none 0 0, .int .i64 0] 30)) := by
  refine ⟨(((Below.refl _ _).alloc (Nat.le_refl _) _).alloc (by simp) _).alloc (by simp; omega) _, ?_, ?_, ?_⟩
  · exact (Below.heap_alloc _ _ _ (by simp; omega)).trans ((Below.heap_alloc _ _ _ (by simp)).trans (heap_alloc_new _ _))
  · refine (Below.heap_alloc _ _ _ (by simp)).trans ?_
    have := heap_alloc_new (w.alloc (.cells #[v] 28)) (.cells #[.int .i64 n] 2)
    rwa [World.size_alloc] at this
  · have := rw.At.new ((w.alloc (.cells #[v] 28)).alloc (.cells #[.int .i64 n] 2)) #[.slice none 0 0, .int .i64 0] 30
    simpa using this
theorem InHr.up (h : InHr w v n u) (hb : Below u.heap.size u u') : InHr w v n u' := ⟨h.bel.trans (hb.mono h.bel.size), h.arg.up hb, h.num.up hb, h.res.up hb⟩
theorem InHr.cells (h : InHr w v n u) : u.cell? ⟨w.heap.size, 0, none⟩ = some v ∧ u.cell? ⟨w.heap.size + 1, 0, none⟩ = some (.int .i64 n) := ⟨h.arg.cell 0, h.num.cell 0⟩
theorem InHr.rcells (h : InHr w v n u) : u.cell? ⟨w.heap.size + 1 + 1, 0, none⟩ = some (.slice none 0 0) ∧ u.cell? ⟨w.heap.size + 1 + 1, 1, none⟩ = some (.int .i64 0) ∧ ∀ k, u.frozen? ⟨w.heap.size + 1 + 1, k, none⟩ = false := ⟨h.res.cell 0, h.res.cell 1, fun k => h.res.frozen k⟩
/-- the answer's block filled -/
def fillS (u : World) (q : Nat) (x0 x1 : Value) : World := (u.setCell ⟨q, 0, none⟩ x0).setCell ⟨q, 1, none⟩ x1
theorem InHr.fin (h : InHr w v n u) (x0 x1 : Value) : rw.At (fillS u (w.heap.size + 1 + 1) x0 x1) (w.heap.size + 1 + 1) #[x0, x1] 30 ∧ Below w.heap.size w (fillS u (w.heap.size + 1 + 1) x0 x1) :=
  ⟨(h.res.set 0 x0).set 1 x1, (h.bel.setCell (p := ⟨w.heap.size + 1 + 1, 0, none⟩) (by simp; omega) x0).setCell (p := ⟨w.heap.size + 1 + 1, 1, none⟩) (by simp; omega) x1⟩
theorem InHr.set (h : InHr w v n u) {q : Nat} (hq : w.heap.size + 1 + 1 < q) (k : Nat) (x : Value) : InHr w v n (u.setCell ⟨q, k, none⟩ x) :=
  ⟨h.bel.setCell (p := ⟨q, k, none⟩) (by show _ ≤ q; omega) x, h.arg.far (by omega) k x, h.num.far (by omega) k x, h.res.far (by omega) k x⟩
theorem noBlock : ∀ b, (Value.slice none 0 0).ownBlock = some b → w.heap.size ≤ b ∧ b < u.heap.size := fun b h => by simp [Value.ownBlock] at h
set_option maxHeartbeats 4000000 in
theorem hearI_S (v : Value) (l : List Ln) (n : Int) (w : World) (hl : l.length ≤ maxLen) (hz : ∀ r ∈ l, r.2.size ≤ maxLen) (hv : SliceIs w v l) :
    Calls Try.prog 9 #[.agg #[v], .int .i64 n] w fun e w' => ∃ al cd, HearS l n al cd ∧ OutPost w al cd e w' := by
  have HI : Hid (InHr w v n (((w.alloc (.cells #[v] 28)).alloc (.cells #[.int .i64 n] 2)).alloc (.cells #[.slice none 0 0, .int .i64 0] 30))) := InHr.new
  have hs := fun u (hu : Below w.heap.size w u) => sndI_any v l u hl hz (hv.up hu)
  by_cases s1 : SndR l
  · rw [decide_eq_true s1] at hs
    have hne : l ≠ [] := fun e => by have := s1.1.1; rw [e] at this; simp at this
    obtain ⟨b, off, cap, hb, rfl, hR0⟩ := slice_row hv hne
    have hz4 : ∀ k, k < l.length → (l.getD k ln0).2.size ≤ 400 := fun k hk => (s1.2.1 k hk).2
    go_enter Try.func9, Try.ntmps9
    go_wp2_with (go_at_call 27; fail)
    refine calls_w (InHr w (.slice (some ⟨b, off, none⟩) l.length cap) n) HI.out ?_
    clear HI
    intro u i
    refine (hs u i.bel).mono ?_
    rintro r u1 ⟨rfl, hb1⟩
    replace i := i.up hb1
    clear hb1 hs
    obtain ⟨x0, x1⟩ := i.cells
    go_wp2_with (go_at_call 28; fail)
    refine (queue_any b off cap l u1 s1.1.2 hz4 (Nat.lt_of_lt_of_le hb i.bel.size) (hR0.below i.bel hb)).mono ?_
    rintro r u2 ⟨q, vq, rfl, hq⟩
    have j := i.up hq.bel
    obtain ⟨g, c2, rfl, hlc, hg, hrx⟩ := hq.own.whole hne
    have hqn : w.heap.size + 1 + 1 < u1.heap.size := i.res.lt
    have hq1 := hq.mq
    have hbx := hq.box
    have hgq : g ≠ q := fun e => hq.own.other (by decide) hq.box (by rw [e]; rfl)
    clear i x0 x1 hq hR0 hv hz
    go_wp2_with (go_at_call 29; fail)
    refine (place_any q g 0 c2 (w.heap.size + 1) l n u2 (Nat.le_trans s1.1.2 (by decide)) hrx.lt hbx hrx.row j.cells.2).mono ?_
    rintro r u3 ⟨⟨k, kn, rfl, hk1, hk0⟩, hb3⟩
    replace j := j.up hb3
    replace hbx := hbx.up hb3
    replace hrx := hrx.up hb3
    clear hb3
    cases kn with
    | false =>
      obtain ⟨rfl, hno⟩ := hk0 rfl
      have HV : Hid (HearS l n [] 6) := ⟨fun h => absurd s1 h, fun _ _ => ⟨rfl, rfl⟩, fun _ k hk _ he => absurd he (hno k hk)⟩
      obtain ⟨r0, r1, r2⟩ := j.rcells
      have HD : Hid _ := j.fin (.slice none 0 0) (.int .i64 6)
      clear j hk1 hk0 hno s1 hbx hrx hz4
      go_wp2
      obtain ⟨d1, d2⟩ := HD.out
      exact bodyPost_ret (results_cell_row Try.results9 _ _ (w.heap.size + 1 + 1) _ #[.slice none 0 0, .int .i64 6] _ _ rfl d1 Try.underlying30 rfl infoSO) rfl ⟨_, _, HV.out, _, rfl, d2, .inl ⟨rfl, rfl⟩, noBlock⟩
    | true =>
      obtain ⟨hkl, hno, he⟩ := hk1 rfl
      have HV : Hid (HearS l n (l.drop k) 0) := ⟨fun h => absurd s1 h, fun _ h => absurd he (h k hkl), fun _ k' hk' hn' he' => by
        have : k' = k := by
          rcases Nat.lt_trichotomy k' k with h | h | h
          · exact absurd he' (hno k' h)
          · exact h
          · exact absurd he (hn' k h)
        subst this; exact ⟨rfl, rfl⟩⟩
      clear hk1 hk0 hno he
      go_wp2_with (go_at_call 31; fail)
      refine (drop_any q g l.length c2 k u3 hbx hkl hlc).mono ?_
      rintro r u4 ⟨rfl, rfl⟩
      have hqw : w.heap.size + 1 + 1 < q := Nat.lt_of_lt_of_le hqn hq1
      have hgw : w.heap.size + 1 + 1 < g := Nat.lt_of_lt_of_le hqn hg
      have hln : (l.drop k).length = l.length - k := List.length_drop
      have i4 := j.set hqw 0 (.slice (some ⟨g, k * 2, none⟩) (l.length - k) (c2 - k))
      have b4 := hbx.set 0 (.slice (some ⟨g, k * 2, none⟩) (l.length - k) (c2 - k))
      have r4 := (hrx.drop k).far hgq 0 (.slice (some ⟨g, k * 2, none⟩) (l.length - k) (c2 - k))
      generalize u3.setCell ⟨q, 0, none⟩ (.slice (some ⟨g, k * 2, none⟩) (l.length - k) (c2 - k)) = U at *
      have x0 : U.cell? ⟨q, 0, none⟩ = some (.slice (some ⟨g, k * 2, none⟩) (l.length - k) (c2 - k)) := b4.cell 0
      obtain ⟨r0, r1, r2⟩ := i4.rcells
      have HD : Hid _ := i4.fin (.slice (some ⟨g, k * 2, none⟩) (l.length - k) (c2 - k)) (.int .i64 0)
      have HX : Hid (RowX (fillS U (w.heap.size + 1 + 1) (.slice (some ⟨g, k * 2, none⟩) (l.length - k) (c2 - k)) (.int .i64 0)) g (k * 2) (l.drop k)) := (r4.far (by omega) 0 _).far (by omega) 1 _
      clear j i4 b4 r4 hbx hrx hz4 s1
      go_wp2
      obtain ⟨d1, d2⟩ := HD.out
      refine bodyPost_ret (results_cell_row Try.results9 _ _ (w.heap.size + 1 + 1) _ #[.slice (some ⟨g, k * 2, none⟩) (l.length - k) (c2 - k), .int .i64 0] _ _ rfl d1 Try.underlying30 rfl infoSO) rfl ⟨_, _, HV.out, _, rfl, d2, .inr ⟨g, k * 2, c2 - k, by rw [hln], HX.out⟩, fun b' hb' => ?_⟩
      have hb2 : g = b' := by simpa [Value.ownBlock] using hb'
      rw [← hb2]
      exact ⟨by omega, HX.out.lt⟩
  · rw [decide_eq_false s1] at hs
    have HV : Hid (HearS l n [] 1) := ⟨fun _ => ⟨rfl, rfl⟩, fun h => absurd h s1, fun h => absurd h s1⟩
    clear s1
    go_enter Try.func9, Try.ntmps9
    go_wp2_with (go_at_call 27; fail)
    refine calls_w (InHr w v n) HI.out ?_
    clear HI
    intro u i
    refine (hs u i.bel).mono ?_
    rintro r u1 ⟨rfl, hb⟩
    replace i := i.up hb
    clear hb hs
    obtain ⟨r0, r1, r2⟩ := i.rcells
    have HD : Hid _ := i.fin (.slice none 0 0) (.int .i64 1)
    clear i hv
    go_wp2
    obtain ⟨d1, d2⟩ := HD.out
    exact bodyPost_ret (results_cell_row Try.results9 _ _ (w.heap.size + 1 + 1) _ #[.slice none 0 0, .int .i64 1] _ _ rfl d1 Try.underlying30 rfl infoSO) rfl ⟨_, _, HV.out, _, rfl, d2, .inl ⟨rfl, rfl⟩, noBlock⟩
end Go.Proofs.Ytjjfdkmhoocfhab.st
