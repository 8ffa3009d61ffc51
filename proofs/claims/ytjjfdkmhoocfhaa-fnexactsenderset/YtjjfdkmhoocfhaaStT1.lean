/-
  A sender that is set: the program's SenderSet. No condition.
-/
import Derived.Test.YtjjfdkmhoocfhaaStQo
import Derived.Test.YtjjfdkmhoocfhaaStP
namespace Go.Proofs.Ytjjfdkmhoocfhaa.st
open Go.ChangeShapes Go.WideShapes Go.ChangeAt Go.RowKit
open Go.Proofs.Ytjjfdkmhoocfhaa.wi (heap_lt calls_w wp_w)
open Classical
set_option linter.unusedVariables false

abbrev lastN (l : List Ln) : Int := (l.getD (l.length - 1) ln0).1
abbrev lastT (l : List Ln) : ByteArray := (l.getD (l.length - 1) ln0).2
/-- what SenderSet tells -/
structure SetS (l : List Ln) (t : ByteArray) (al : List Ln) (cd : Int) : Prop where
  c0 : 8000 < t.size → al = [] ∧ cd = 2
  c1 : ¬ 8000 < t.size → ¬ (SndR l ∧ t.size ≤ 400) → al = [] ∧ cd = 1
  c2 : SndR l → t.size ≤ 400 → lastT l = t → al = l ∧ cd = 0
  c3 : SndR l → t.size ≤ 400 → lastT l ≠ t → (lastN l = 1000000 ∨ l.length = 8) → al = [] ∧ cd = 9
  c4 : SndR l → t.size ≤ 400 → lastT l ≠ t → ¬ (lastN l = 1000000 ∨ l.length = 8) → al = l ++ [(lastN l + 1, t)] ∧ cd = 0
/-- the argument's block and the answer's -/
structure InTs (w : World) (v : Value) (u : World) : Prop where
  bel : Below w.heap.size w u
  arg : rw.At u w.heap.size #[v] 49
  res : rw.At u (w.heap.size + 1) #[.slice none 0 0, .int .i64 0] 57
variable {w u u' : World} {v : Value}
theorem InTs.new : InTs w v ((w.alloc (.cells #[v] 49)).alloc (.cells #[.slice none 0 0, .int .i64 0] 57)) := by
  refine ⟨((Below.refl _ _).alloc (Nat.le_refl _) _).alloc (by simp) _, ?_, ?_⟩
  · exact (Below.heap_alloc _ _ _ (by simp)).trans (heap_alloc_new _ _)
  · have := rw.At.new (w.alloc (.cells #[v] 49)) #[.slice none 0 0, .int .i64 0] 57
    rwa [World.size_alloc] at this
theorem InTs.up (h : InTs w v u) (hb : Below u.heap.size u u') : InTs w v u' := ⟨h.bel.trans (hb.mono h.bel.size), h.arg.up hb, h.res.up hb⟩
theorem InTs.cell (h : InTs w v u) : u.cell? ⟨w.heap.size, 0, none⟩ = some v := h.arg.cell 0
theorem InTs.rcells (h : InTs w v u) : u.cell? ⟨w.heap.size + 1, 0, none⟩ = some (.slice none 0 0) ∧ u.cell? ⟨w.heap.size + 1, 1, none⟩ = some (.int .i64 0) ∧ ∀ k, u.frozen? ⟨w.heap.size + 1, k, none⟩ = false := ⟨h.res.cell 0, h.res.cell 1, fun k => h.res.frozen k⟩
theorem InTs.fin (h : InTs w v u) (x0 x1 : Value) : rw.At (fillS u (w.heap.size + 1) x0 x1) (w.heap.size + 1) #[x0, x1] 57 ∧ Below w.heap.size w (fillS u (w.heap.size + 1) x0 x1) :=
  ⟨(h.res.set 0 x0).set 1 x1, (h.bel.setCell (p := ⟨w.heap.size + 1, 0, none⟩) (by simp) x0).setCell (p := ⟨w.heap.size + 1, 1, none⟩) (by simp) x1⟩
set_option maxHeartbeats 8000000 in
theorem setI_S (v : Value) (l : List Ln) (t : ByteArray) (w : World) (hl : l.length ≤ maxLen) (hz : ∀ r ∈ l, r.2.size ≤ maxLen) (ht : t.size ≤ maxLen) (hv : SliceIs w v l) :
    Calls Try.prog 29 #[.agg #[v], .string t] w fun e w' => ∃ al cd, SetS l t al cd ∧ OutPost w al cd e w' := by
  have HI : Hid (InTs w v ((w.alloc (.cells #[v] 49)).alloc (.cells #[.slice none 0 0, .int .i64 0] 57))) := InTs.new
  have hs := fun u (hu : Below w.heap.size w u) => sndI_any v l u hl hz (hv.up hu)
  have ht9 := ht
  unfold maxLen at ht9
  by_cases h0 : 8000 < t.size
  · have HV : Hid (SetS l t [] 2) := ⟨fun _ => ⟨rfl, rfl⟩, fun h => absurd h0 h, fun _ h => by omega, fun _ h => by omega, fun _ h => by omega⟩
    have d1 : rw.At ((w.alloc (.cells #[v] 49)).alloc (.cells #[.slice none 0 0, .int .i64 2] 57)) (w.heap.size + 1) #[.slice none 0 0, .int .i64 2] 57 := by
      have := rw.At.new (w.alloc (.cells #[v] 49)) #[.slice none 0 0, .int .i64 2] 57
      rwa [World.size_alloc] at this
    have HD : Hid (rw.At ((w.alloc (.cells #[v] 49)).alloc (.cells #[.slice none 0 0, .int .i64 2] 57)) (w.heap.size + 1) #[.slice none 0 0, .int .i64 2] 57 ∧ Below w.heap.size w ((w.alloc (.cells #[v] 49)).alloc (.cells #[.slice none 0 0, .int .i64 2] 57))) := ⟨d1, ((Below.refl _ _).alloc (Nat.le_refl _) _).alloc (by simp) _⟩
    clear hs hv HI d1
    go_enter Try.func29, Try.ntmps29
    go_wp2
    obtain ⟨d1, d2⟩ := HD.out
    exact bodyPost_ret (results_cell_row Try.results29 _ _ (w.heap.size + 1) _ #[.slice none 0 0, .int .i64 2] _ _ rfl d1 Try.underlying57 rfl infoSO) rfl ⟨_, _, HV.out, _, rfl, d2, .inl ⟨rfl, rfl⟩, noBlock⟩
  · by_cases s1 : SndR l
    · rw [decide_eq_true s1] at hs
      by_cases h4 : t.size ≤ 400
      · have hne : l ≠ [] := fun e => by have := s1.1.1; rw [e] at this; simp at this
        obtain ⟨b, off, cap, hb, rfl, hR0⟩ := slice_row hv hne
        have hz4 : ∀ k, k < l.length → (l.getD k ln0).2.size ≤ 400 := fun k hk => (s1.2.1 k hk).2
        have hl8 : l.length ≤ 8 := s1.1.2
        have hln : 0 < l.length := s1.1.1
        have h44 : ¬ 400 < t.size := by omega
        have hNr := (s1.2.1 (l.length - 1) (by omega)).1
        go_enter Try.func29, Try.ntmps29
        go_wp2_with (go_at_call 22; fail)
        refine calls_w (InTs w (.slice (some ⟨b, off, none⟩) l.length cap)) HI.out ?_
        clear HI
        intro u i
        refine (hs u i.bel).mono ?_
        rintro r u1 ⟨rfl, hb1⟩
        replace i := i.up hb1
        clear hb1 hs
        have x0 := i.cell
        go_wp2_with (go_at_call 51; fail)
        refine (queue_any b off cap l u1 hl8 hz4 (Nat.lt_of_lt_of_le hb i.bel.size) (hR0.below i.bel hb)).mono ?_
        rintro r u2 ⟨q, vq, rfl, hq⟩
        have j := i.up hq.bel
        have hqn : w.heap.size + 1 < u1.heap.size := i.res.lt
        have hwu := i.bel
        clear i x0
        obtain ⟨g, c2, hvq, hlc, hg, hrx⟩ := hq.own.whole hne
        subst hvq
        have hlast := last_any q g 0 c2 l u2 (Nat.le_trans hl8 (by decide)) hln hrx.lt hq.box hrx.row
        obtain ⟨N, hN⟩ : ∃ N, N = lastN l := ⟨_, rfl⟩
        obtain ⟨T, hT⟩ : ∃ T, T = lastT l := ⟨_, rfl⟩
        have hlast2 : Calls Try.prog 52 #[.pointer (some ⟨q, 0, none⟩)] u2 fun e w' => e = .returned (.agg #[.int .i64 N, .string T]) ∧ Below u2.heap.size u2 w' := by rw [hN, hT]; exact hlast
        clear hlast
        go_wp2_with (go_at_call 52; fail)
        refine hlast2.mono ?_
        rintro r u3 ⟨rfl, hb3⟩
        replace j := j.up hb3
        replace hq := hq.up hb3
        replace hrx := hrx.up hb3
        clear hb3 hlast2
        have j4 := fun o => j.up (rw.up_alloc u3 o)
        have q4 := fun o => hq.up (rw.up_alloc u3 o)
        have hrx4 := fun o => hrx.up (rw.up_alloc u3 o)
        by_cases hTt : T = t
        · have s2 : (T.toList == t.toList) = true := ss.beqT hTt
          have HV : Hid (SetS l t l 0) := ⟨fun h => absurd h h0, fun _ h => absurd ⟨s1, h4⟩ h, fun _ _ _ => ⟨rfl, rfl⟩, fun _ _ h => absurd (hT ▸ hTt) h, fun _ _ h => absurd (hT ▸ hTt) h⟩
          have i0 := j4 (.cells #[.int .i64 N, .string T] 28)
          have h0' := q4 (.cells #[.int .i64 N, .string T] 28)
          have k0 := hrx4 (.cells #[.int .i64 N, .string T] 28)
          have l0 := rw.At.new u3 #[.int .i64 N, .string T] 28
          have n1 : q < u3.heap.size := hq.box.lt
          have n2 : g < u3.heap.size := hrx.lt
          have n3 : w.heap.size + 1 < u3.heap.size := j.res.lt
          obtain ⟨p, hp⟩ : ∃ p, p = u3.heap.size := ⟨_, rfl⟩
          have ho1 : g ≠ q := fun e => hq.own.other (by decide) hq.box (by rw [e]; rfl)
          have hq1 := hq.mq
          have xx0 : (u3.alloc (.cells #[.int .i64 N, .string T] 28)).cell? ⟨q, 0, none⟩ = some (.slice (some ⟨g, 0, none⟩) l.length c2) := h0'.box.cell 0
          obtain ⟨r0, r1, r2⟩ := i0.rcells
          obtain ⟨r3, r4, r5⟩ := j.rcells
          obtain ⟨d1, d2⟩ := j.fin (.slice (some ⟨g, 0, none⟩) l.length c2) (.int .i64 0)
          have HD : Hid (_ ∧ _) := ⟨d1.up (rw.up_alloc _ (.cells #[.int .i64 N, .string T] 28)), d2.alloc d2.size (.cells #[.int .i64 N, .string T] 28)⟩
          have HX : Hid (RowX ((fillS u3 (w.heap.size + 1) (.slice (some ⟨g, 0, none⟩) l.length c2) (.int .i64 0)).alloc (.cells #[.int .i64 N, .string T] 28)) g 0 l) := ((hrx.far (by omega) 0 _).far (by omega) 1 _).up (rw.up_alloc _ _)
          clear j hq hrx j4 q4 hrx4 i0 h0' k0 l0 d1 d2 hR0 hv hz hz4 s1 hTt hN hT hNr
          go_wp2
          obtain ⟨d1, d2⟩ := HD.out
          refine bodyPost_ret (results_cell_row Try.results29 _ _ (w.heap.size + 1) _ #[.slice (some ⟨g, 0, none⟩) l.length c2, .int .i64 0] _ _ rfl d1 Try.underlying57 rfl infoSO) rfl ⟨_, _, HV.out, _, rfl, d2, .inr ⟨g, 0, c2, rfl, HX.out⟩, fun b' hb' => ?_⟩
          have hb2 : g = b' := by simpa [Value.ownBlock] using hb'
          rw [← hb2]
          exact ⟨by omega, HX.out.lt⟩
        · have s2 : (T.toList == t.toList) = false := ss.beqF hTt
          by_cases hf : N = 1000000 ∨ l.length = 8
          · have HV : Hid (SetS l t [] 9) := ⟨fun h => absurd h h0, fun _ h => absurd ⟨s1, h4⟩ h, fun _ _ h => absurd (hT.trans h) hTt, fun _ _ _ _ => ⟨rfl, rfl⟩, fun _ _ _ h => absurd (hN ▸ hf) h⟩
            have i0 := j4 (.cells #[.int .i64 N, .string T] 28)
            have h0' := q4 (.cells #[.int .i64 N, .string T] 28)
            have k0 := hrx4 (.cells #[.int .i64 N, .string T] 28)
            have l0 := rw.At.new u3 #[.int .i64 N, .string T] 28
            have n1 : q < u3.heap.size := hq.box.lt
            have n2 : g < u3.heap.size := hrx.lt
            have n3 : w.heap.size + 1 < u3.heap.size := j.res.lt
            obtain ⟨p, hp⟩ : ∃ p, p = u3.heap.size := ⟨_, rfl⟩
            have ho1 : g ≠ q := fun e => hq.own.other (by decide) hq.box (by rw [e]; rfl)
            have hq1 := hq.mq
            have xx0 : (u3.alloc (.cells #[.int .i64 N, .string T] 28)).cell? ⟨q, 0, none⟩ = some (.slice (some ⟨g, 0, none⟩) l.length c2) := h0'.box.cell 0
            obtain ⟨r0, r1, r2⟩ := i0.rcells
            obtain ⟨r3, r4, r5⟩ := j.rcells
            obtain ⟨d1, d2⟩ := j.fin (.slice none 0 0) (.int .i64 9)
            have HD : Hid (_ ∧ _) := ⟨d1.up (rw.up_alloc _ (.cells #[.int .i64 N, .string T] 28)), d2.alloc d2.size (.cells #[.int .i64 N, .string T] 28)⟩
            by_cases hf1 : N = 1000000
            · have hf2 : (N == 1000000) = true := by simp [hf1]
              clear j hq hrx j4 q4 hrx4 i0 h0' k0 l0 d1 d2 hR0 hv hz hz4 s1 hTt hN hT hNr hf hf1
              go_wp2
              obtain ⟨d1, d2⟩ := HD.out
              exact bodyPost_ret (results_cell_row Try.results29 _ _ (w.heap.size + 1) _ #[.slice none 0 0, .int .i64 9] _ _ rfl d1 Try.underlying57 rfl infoSO) rfl ⟨_, _, HV.out, _, rfl, d2, .inl ⟨rfl, rfl⟩, noBlock⟩
            · have hf2 : (N == 1000000) = false := by simp [hf1]
              have hf3 : ((l.length : Int) == 8) = true := by simp; omega
              clear j hq hrx j4 q4 hrx4 i0 h0' k0 l0 d1 d2 hR0 hv hz hz4 s1 hTt hN hT hNr hf hf1
              go_wp2
              obtain ⟨d1, d2⟩ := HD.out
              exact bodyPost_ret (results_cell_row Try.results29 _ _ (w.heap.size + 1) _ #[.slice none 0 0, .int .i64 9] _ _ rfl d1 Try.underlying57 rfl infoSO) rfl ⟨_, _, HV.out, _, rfl, d2, .inl ⟨rfl, rfl⟩, noBlock⟩
          · have HV : Hid (SetS l t (l ++ [(N + 1, t)]) 0) := ⟨fun h => absurd h h0, fun _ h => absurd ⟨s1, h4⟩ h, fun _ _ h => absurd (hT.trans h) hTt, fun _ _ _ h => absurd h (hN ▸ hf), fun _ _ _ _ => ⟨by rw [hN], rfl⟩⟩
            have hf2 : (N == 1000000) = false := by simp; omega
            have hf3 : ((l.length : Int) == 8) = false := by simp; omega
            have hNr2 : 0 ≤ N ∧ N ≤ 1000000 := by rw [hN]; exact hNr
            have hw1 : IntKind.i64.wrap (N + 1) = N + 1 := by rw [IntKind.wrap_i64]; omega
            have i0 := j4 (.cells #[.int .i64 N, .string T] 28)
            have h0' := q4 (.cells #[.int .i64 N, .string T] 28)
            have k0 := hrx4 (.cells #[.int .i64 N, .string T] 28)
            have l0 := rw.At.new u3 #[.int .i64 N, .string T] 28
            have n1 : q < u3.heap.size := hq.box.lt
            have n2 : g < u3.heap.size := hrx.lt
            have n3 : w.heap.size + 1 < u3.heap.size := j.res.lt
            obtain ⟨p, hp⟩ : ∃ p, p = u3.heap.size := ⟨_, rfl⟩
            have ho1 : g ≠ q := fun e => hq.own.other (by decide) hq.box (by rw [e]; rfl)
            have hq1 := hq.mq
            have xx0 : (u3.alloc (.cells #[.int .i64 N, .string T] 28)).cell? ⟨q, 0, none⟩ = some (.slice (some ⟨g, 0, none⟩) l.length c2) := h0'.box.cell 0
            clear hR0 hv hz hz4 s1 hTt hN hT hNr hf j hq hrx j4 q4 hrx4
            go_wp2_with fail
            clear xx0 k0
            rw [← hp] at l0 ⊢
            have HS : Hid (∀ u, rw.At u p #[.int .i64 N, .string T] 28 → (u.cell? ⟨p, 0, none⟩ = some (.int .i64 N))) := fun u h => h.cell 0
            have hpq : p ≠ q := by omega
            have hpg : p ≠ g := by omega
            generalize u3.alloc (.cells #[.int .i64 N, .string T] 28) = W0 at *
            clear n1 n2 n3 hp s2 hf2 hf3
            refine wp_region_noPanic ?_
            refine wp_region_held_drew (S := fun u => u.cell? ⟨p, 0, none⟩ = some (.int .i64 N)) (by kernel_rfl) (HS.out _ (l0.up (rw.up_drew _))) (fun _ => ?_)
            refine rw.region_w (fun u => (rw.At u p #[.int .i64 N, .string T] 28) ∧ (InQ u1 u1.heap.size q u1.heap.size (.slice (some ⟨g, 0, none⟩) l.length c2) l u) ∧ (InTs w (.slice (some ⟨b, off, none⟩) l.length cap) u)) ⟨l0.up (rw.up_drew _), h0'.up (rw.up_drew _), i0.up (rw.up_drew _)⟩ ?_
            clear l0 h0' i0
            rintro u ⟨i, iq, it⟩
            have hHeld : (u.cell? ⟨p, 0, none⟩ = some (.int .i64 N)) := HS.out u i
            refine wpAnyH_take (i := 0) (oi := { dst := some 48, op := Op.move (Operand.tmp 5), type := 75, pos := "l07_sync.go:174", after := #[], guard := none }) (v := ?_) rfl (by kernel_rfl) (by kernel_rfl) (by kernel_rfl) (fun _ _ _ h => h) (Or.inl ⟨by rfl, ?_⟩) hHeld ?_
            rotate_left
            · rintro w z0; go_simp; (try with_reducible rfl)
            try simp only [Act.put, List.setIfInBounds_toArray, List.set_cons_zero, List.set_cons_succ]
            refine wpAnyH_take (i := 1) (oi := { dst := some 49, op := Op.fieldAddr 28 (Operand.tmp 6) 0, type := 0, pos := "l07_sync.go:174", after := #[], guard := none }) (v := ?_) rfl (by kernel_rfl) (by kernel_rfl) (by kernel_rfl) (fun _ _ _ h => h) (Or.inl ⟨by rfl, ?_⟩) hHeld ?_
            rotate_left
            · rintro w z0; go_simp; (try with_reducible rfl)
            try simp only [Act.put, List.setIfInBounds_toArray, List.set_cons_zero, List.set_cons_succ]
            refine wpAnyH_take (i := 2) (oi := { dst := some 50, op := Op.load 2 (Operand.tmp 49), type := 2, pos := "l07_sync.go:174", after := #[{ on := 1, ground := Ground.data }], guard := none }) (v := ?_) rfl (by kernel_rfl) (by kernel_rfl) (by kernel_rfl) (fun _ _ _ h => h) (Or.inl ⟨by rfl, ?_⟩) hHeld ?_
            rotate_left
            · rintro w z0; go_simp; (try with_reducible rfl)
            try simp only [Act.put, List.setIfInBounds_toArray, List.set_cons_zero, List.set_cons_succ]
            refine wpAnyH_take (i := 3) (oi := { dst := some 51, op := Op.binOp BinOp.add 2 (Operand.tmp 50) (Operand.const (Value.int IntKind.i64 1)) 2, type := 2, pos := "l07_sync.go:174", after := #[{ on := 2, ground := Ground.data }], guard := none }) (v := ?_) rfl (by kernel_rfl) (by kernel_rfl) (by kernel_rfl) (fun _ _ _ h => h) (Or.inl ⟨by rfl, ?_⟩) hHeld ?_
            rotate_left
            · rintro w z0; go_simp; (try with_reducible rfl)
            try simp only [Act.put, List.setIfInBounds_toArray, List.set_cons_zero, List.set_cons_succ]
            refine wpAnyH_take (i := 4) (oi := { dst := some 52, op := Op.move (Operand.tmp 1), type := 9, pos := "l07_sync.go:174", after := #[], guard := none }) (v := ?_) rfl (by kernel_rfl) (by kernel_rfl) (by kernel_rfl) (fun _ _ _ h => h) (Or.inl ⟨by rfl, ?_⟩) hHeld ?_
            rotate_left
            · rintro w z0; go_simp; (try with_reducible rfl)
            try simp only [Act.put, List.setIfInBounds_toArray, List.set_cons_zero, List.set_cons_succ]
            refine wpAnyH_ready (rs := [5]) (by kernel_rfl) (by simp) ?_
            refine AllReadyH.cons rfl (fun K hK => ?_) AllReadyH.nil
            go_simp
            refine hK.out _ _ (HS.out _ (i.up (rw.up_alloc _ _))) (fun _ => ?_)
            clear hK K hHeld
            try simp only [Act.put, List.setIfInBounds_toArray, List.set_cons_zero, List.set_cons_succ]
            obtain ⟨gg, hgg⟩ : ∃ gg, gg = u.heap.size := ⟨_, rfl⟩
            rw [← hgg]
            have nggp : p < gg := by rw [hgg]; exact i.lt
            refine rw.region_w (fun u => (rw.At u p #[.int .i64 N, .string T] 28) ∧ (InQ u1 u1.heap.size q u1.heap.size (.slice (some ⟨g, 0, none⟩) l.length c2) l u) ∧ (InTs w (.slice (some ⟨b, off, none⟩) l.length cap) u) ∧ (rw.At u gg #[.string t] 9)) ⟨i.up (rw.up_alloc _ _), iq.up (rw.up_alloc _ _), it.up (rw.up_alloc _ _), by rw [hgg]; exact rw.At.new _ _ _⟩ ?_
            clear i iq it
            rintro u ⟨i, iq, it, g0⟩
            have hHeld : (u.cell? ⟨p, 0, none⟩ = some (.int .i64 N)) := HS.out u i
            clear hgg
            refine wpAnyH_ready (rs := [6]) (by kernel_rfl) (by simp) ?_
            refine AllReadyH.cons rfl (fun K hK => ?_) AllReadyH.nil
            go_simp
            go_at_call 39
            refine (joined1_at _ _ u g0 (by omega)).mono ?_
            rintro r7 w7 ⟨rfl, hb⟩
            go_wp2_with fail
            refine hK.out _ _ (HS.out _ (i.up hb)) (fun _ => ?_)
            clear hK K hHeld
            try simp only [Act.put, List.setIfInBounds_toArray, List.set_cons_zero, List.set_cons_succ]
            refine rw.region_w (fun u => (rw.At u p #[.int .i64 N, .string T] 28) ∧ (InQ u1 u1.heap.size q u1.heap.size (.slice (some ⟨g, 0, none⟩) l.length c2) l u) ∧ (InTs w (.slice (some ⟨b, off, none⟩) l.length cap) u) ∧ (rw.At u gg #[.string t] 9)) ⟨i.up hb, iq.up hb, it.up hb, g0.up hb⟩ ?_
            clear i iq it g0 hb
            rintro u ⟨i, iq, it, g0⟩
            have hHeld : (u.cell? ⟨p, 0, none⟩ = some (.int .i64 N)) := HS.out u i
            refine wpAnyH_take (i := 7) (oi := { dst := some 55, op := Op.build 28 #[(0, Operand.tmp 51), (1, Operand.tmp 54)], type := 28, pos := "l07_sync.go:174", after := #[{ on := 3, ground := Ground.data }, { on := 6, ground := Ground.data }], guard := none }) (v := ?_) rfl (by kernel_rfl) (by kernel_rfl) (by kernel_rfl) (fun _ _ _ h => h) (Or.inl ⟨by rfl, ?_⟩) hHeld ?_
            rotate_left
            · rintro w z0; go_simp; (try with_reducible rfl)
            try simp only [Act.put, List.setIfInBounds_toArray, List.set_cons_zero, List.set_cons_succ]
            refine wpAnyH_ready (rs := [8]) (by kernel_rfl) (by simp) ?_
            refine AllReadyH.cons rfl (fun K hK => ?_) AllReadyH.nil
            go_simp
            go_at_call 53
            refine (add_any u u1 u1.heap.size q u1.heap.size (.slice (some ⟨g, 0, none⟩) l.length c2) l (N + 1) t u iq (fun _ _ _ hc _ _ => hc) (by omega)).mono ?_
            rintro r7 w7 ⟨rfl, ⟨v7, hq7⟩, hf7⟩
            have hob : ∀ c, g ≠ c → ∀ k, Value.ownBlock (.slice (some ⟨g, 0, none⟩) l.length c2) = some k → k ≠ c := by
              intro c hc k hk
              have hk2 : g = k := by simpa [Value.ownBlock] using hk
              rw [← hk2]; exact hc
            have i7 := hf7 p _ _ i (by omega) (hob _ (by omega))
            have it7 : InTs w (.slice (some ⟨b, off, none⟩) l.length cap) w7 := ⟨hwu.trans (hq7.bel.mono hwu.size), hf7 _ _ _ it.arg (by omega) (hob _ (by omega)), hf7 _ _ _ it.res (by omega) (hob _ (by omega))⟩
            clear hob
            go_wp2_with fail
            refine hK.out _ _ (HS.out _ i7) (fun _ => ?_)
            clear hK K hHeld i iq hf7 it
            try simp only [Act.put, List.setIfInBounds_toArray, List.set_cons_zero, List.set_cons_succ]
            refine wpAnyH_done (by kernel_rfl) ?_ _
            refine NoPanic.normal ?_
            obtain ⟨g7, c7, hv7, hlc7, hg7, hrx⟩ := hq7.own.whole (by simp)
            subst hv7
            have xx0 := hq7.box.cell 0
            obtain ⟨r0, r1, r2⟩ := it7.rcells
            obtain ⟨d1, d2⟩ := it7.fin (.slice (some ⟨g7, 0, none⟩) (l ++ [(N + 1, t)]).length c7) (.int .i64 0)
            obtain ⟨l7, hl7⟩ : ∃ l7, l7 = l ++ [(N + 1, t)] := ⟨_, rfl⟩
            rw [← hl7] at HV hrx xx0 d1 d2 hlc7
            have HD : Hid (_ ∧ _) := ⟨d1, d2⟩
            have HX : Hid (RowX (fillS w7 (w.heap.size + 1) (.slice (some ⟨g7, 0, none⟩) l7.length c7) (.int .i64 0)) g7 0 l7) := (hrx.far (by omega) 0 _).far (by omega) 1 _
            clear d1 d2 hq7 it7 i7 hrx HS hl7
            go_wp2
            obtain ⟨d1, d2⟩ := HD.out
            refine bodyPost_ret (results_cell_row Try.results29 _ _ (w.heap.size + 1) _ #[.slice (some ⟨g7, 0, none⟩) l7.length c7, .int .i64 0] _ _ rfl d1 Try.underlying57 rfl infoSO) rfl ⟨_, _, HV.out, _, rfl, d2, .inr ⟨g7, 0, c7, rfl, HX.out⟩, fun b' hb' => ?_⟩
            have hb2 : g7 = b' := by simpa [Value.ownBlock] using hb'
            rw [← hb2]
            exact ⟨by omega, HX.out.lt⟩
      · have HV : Hid (SetS l t [] 1) := ⟨fun h => absurd h h0, fun _ _ => ⟨rfl, rfl⟩, fun _ h => absurd h h4, fun _ h => absurd h h4, fun _ h => absurd h h4⟩
        have h44 : 400 < t.size := by omega
        clear s1
        go_enter Try.func29, Try.ntmps29
        go_wp2_with (go_at_call 22; fail)
        refine calls_w (InTs w (v)) HI.out ?_
        clear HI
        intro u i
        refine (hs u i.bel).mono ?_
        rintro r u1 ⟨rfl, hb1⟩
        replace i := i.up hb1
        clear hb1 hs
        clear hv
        obtain ⟨r0, r1, r2⟩ := i.rcells
        have HD : Hid _ := i.fin (.slice none 0 0) (.int .i64 1)
        clear i
        go_wp2
        obtain ⟨d1, d2⟩ := HD.out
        exact bodyPost_ret (results_cell_row Try.results29 _ _ (w.heap.size + 1) _ #[.slice none 0 0, .int .i64 1] _ _ rfl d1 Try.underlying57 rfl infoSO) rfl ⟨_, _, HV.out, _, rfl, d2, .inl ⟨rfl, rfl⟩, noBlock⟩
    · rw [decide_eq_false s1] at hs
      have HV : Hid (SetS l t [] 1) := ⟨fun h => absurd h h0, fun _ _ => ⟨rfl, rfl⟩, fun h => absurd h s1, fun h => absurd h s1, fun h => absurd h s1⟩
      clear s1
      go_enter Try.func29, Try.ntmps29
      go_wp2_with (go_at_call 22; fail)
      refine calls_w (InTs w (v)) HI.out ?_
      clear HI
      intro u i
      refine (hs u i.bel).mono ?_
      rintro r u1 ⟨rfl, hb1⟩
      replace i := i.up hb1
      clear hb1 hs
      clear hv
      obtain ⟨r0, r1, r2⟩ := i.rcells
      have HD : Hid _ := i.fin (.slice none 0 0) (.int .i64 1)
      clear i
      go_wp2
      obtain ⟨d1, d2⟩ := HD.out
      exact bodyPost_ret (results_cell_row Try.results29 _ _ (w.heap.size + 1) _ #[.slice none 0 0, .int .i64 1] _ _ rfl d1 Try.underlying57 rfl infoSO) rfl ⟨_, _, HV.out, _, rfl, d2, .inl ⟨rfl, rfl⟩, noBlock⟩
end Go.Proofs.Ytjjfdkmhoocfhaa.st
