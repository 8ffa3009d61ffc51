/-
  What a sender hears: the model's SenderHear. No condition.
-/
import Derived.Test.YtjjfdkmhoocfhabStH2
import Derived.Test.YtjjfdkmhoocfhabStR2
import Derived.OwnWalk
namespace Go.Proofs.Ytjjfdkmhoocfhab.st
open Go.ChangeShapes Go.WideShapes Go.ChangeAt Go.RowKit
open Go.Proofs.Ytjjfdkmhoocfhab.wi (heap_lt calls_w wp_w)
open Classical
set_option linter.unusedVariables false

theorem OwS.lit (u : World) : OwS u.heap.size (.slice (some ⟨u.heap.size, 0, none⟩) 0 0) [] (u.alloc (.cells #[] 46)) :=
  ⟨rfl, .inr ⟨u.heap.size, 0, #[], rfl, Nat.le_refl _, heap_alloc_new _ _, Nat.le_refl _, by simp, rfl, rfl⟩⟩
/-- the argument's block and the answer's -/
structure InHm (w : World) (v : Value) (u : World) : Prop where
  bel : Below w.heap.size w u
  arg : rw.At u w.heap.size #[v] 28
  res : rw.At u (w.heap.size + 1) #[.slice none 0 0, .int .i64 0] 30
variable {w u u' : World} {v : Value} {n : Int}
theorem InHm.new : InHm w v ((w.alloc (.cells #[v] 28)).alloc (.cells #[.slice none 0 0, .int .i64 0] 30)) := by
  refine ⟨((Below.refl _ _).alloc (Nat.le_refl _) _).alloc (by simp) _, ?_, ?_⟩
  · exact (Below.heap_alloc _ _ _ (by simp)).trans (heap_alloc_new _ _)
  · have := rw.At.new (w.alloc (.cells #[v] 28)) #[.slice none 0 0, .int .i64 0] 30
    rwa [World.size_alloc] at this
theorem InHm.up (h : InHm w v u) (hb : Below u.heap.size u u') : InHm w v u' := ⟨h.bel.trans (hb.mono h.bel.size), h.arg.up hb, h.res.up hb⟩
theorem InHm.cell (h : InHm w v u) : u.cell? ⟨w.heap.size, 0, none⟩ = some v := h.arg.cell 0
theorem InHm.rcells (h : InHm w v u) : u.cell? ⟨w.heap.size + 1, 0, none⟩ = some (.slice none 0 0) ∧ u.cell? ⟨w.heap.size + 1, 1, none⟩ = some (.int .i64 0) ∧ ∀ k, u.frozen? ⟨w.heap.size + 1, k, none⟩ = false := ⟨h.res.cell 0, h.res.cell 1, fun k => h.res.frozen k⟩
theorem InHm.fin (h : InHm w v u) (x0 x1 : Value) : rw.At (fillS u (w.heap.size + 1) x0 x1) (w.heap.size + 1) #[x0, x1] 30 ∧ Below w.heap.size w (fillS u (w.heap.size + 1) x0 x1) :=
  ⟨(h.res.set 0 x0).set 1 x1, (h.bel.setCell (p := ⟨w.heap.size + 1, 0, none⟩) (by simp) x0).setCell (p := ⟨w.heap.size + 1, 1, none⟩) (by simp) x1⟩
theorem InHm.grown (h : InHm w v u) {base : Nat} {o : Value} {l : List Ln} (ho : OwS base o l u) (hb : w.heap.size + 1 < base) (hg : u.grownBy u' o.ownBlock) : InHm w v u' := by
  have hk : ∀ j, o.ownBlock = some j → w.heap.size + 1 < j := fun j hj => Nat.lt_of_lt_of_le hb (ho.block j hj).1
  refine ⟨h.bel.grown hg h.bel.size (fun j hj => by have := hk j hj; omega), ?_, ?_⟩
  · exact (hg.block _ h.arg.lt (fun e => by have := hk _ e.symm; omega)).trans h.arg
  · exact (hg.block _ h.res.lt (fun e => by have := hk _ e.symm; omega)).trans h.res
/-- the cells from a place on, as an append takes them -/
theorem Row.news {u : World} {b off : Nat} {l : List Ln} (h : Row u b off l) (k : Nat) : ∀ j x, (flat (l.drop k))[j]? = some x → u.cell? ((⟨b, off + k * 2, none⟩ : Addr).add j) = some x := by
  intro j x hx
  have hj : j < (l.length - k) * 2 := by
    have := (List.getElem?_eq_some_iff.1 hx).1
    rwa [flat_length, List.length_drop] at this
  have e : (⟨b, off + k * 2, none⟩ : Addr).add j = ⟨b, off + k * 2 + j, none⟩ := by unfold Addr.add; split <;> simp_all
  rw [e]
  rcases Nat.mod_two_eq_zero_or_one j with h2 | h2
  · obtain ⟨i, rfl⟩ : ∃ i, j = i * 2 := ⟨j / 2, by omega⟩
    have h3 := (h (k + i) (by omega)).1
    have h4 := (flat_at (l.drop k) i (by rw [List.length_drop]; omega)).1
    rw [show off + k * 2 + i * 2 = off + (k + i) * 2 by omega, h3]
    rw [hx] at h4
    rw [h4]; simp [List.getD]
  · obtain ⟨i, rfl⟩ : ∃ i, j = i * 2 + 1 := ⟨j / 2, by omega⟩
    have h3 := (h (k + i) (by omega)).2
    have h4 := (flat_at (l.drop k) i (by rw [List.length_drop]; omega)).2
    rw [show off + k * 2 + (i * 2 + 1) = off + (k + i) * 2 + 1 by omega, h3]
    rw [hx] at h4
    rw [h4]; simp [List.getD]
theorem flat_one (l : List Ln) : ∀ y ∈ flat l, y.oneCell' = true := by
  intro y hy
  obtain ⟨x, _, hx⟩ := List.mem_flatMap.1 hy
  simp at hx
  rcases hx with rfl | rfl <;> rfl
set_option maxHeartbeats 4000000 in
theorem hearM_S (v : Value) (l : List Ln) (n : Int) (w : World) (hl : l.length ≤ maxLen) (hz : ∀ r ∈ l, r.2.size ≤ maxLen) (hv : SliceIs w v l) (hc : ∀ p cap, v = .slice p l.length cap → l.length ≤ cap) :
    Calls Try.prog 7 #[.agg #[v], .int .i64 n] w fun e w' => ∃ al cd, HearS l n al cd ∧ OutPost w al cd e w' := by
  have HI : Hid (InHm w v ((w.alloc (.cells #[v] 28)).alloc (.cells #[.slice none 0 0, .int .i64 0] 30))) := InHm.new
  have hs := fun u (hu : Below w.heap.size w u) => sndM_any v l u hl hz (hv.up hu)
  by_cases s1 : SndR l
  · rw [decide_eq_true s1] at hs
    have hne : l ≠ [] := fun e => by have := s1.1.1; rw [e] at this; simp at this
    obtain ⟨b, off, cap, hb, rfl, hR0⟩ := slice_row hv hne
    have hlc : l.length ≤ cap := hc _ _ rfl
    have hl8 : l.length ≤ 8 := s1.1.2
    have HR : Hid (∀ u, Below w.heap.size w u → Row u b off l) := fun u hu => hR0.below hu hb
    have HV6 : Hid (NoneTo l n l.length → HearS l n [] 6) := fun hno => ⟨fun h => absurd s1 h, fun _ _ => ⟨rfl, rfl⟩, fun _ k hk _ he => absurd he (hno k hk)⟩
    have HV0 : Hid (∀ k, k < l.length → NoneTo l n k → (l.getD k ln0).1 = n → HearS l n (l.drop k) 0) := fun k hkl hno he => ⟨fun h => absurd s1 h, fun _ h => absurd he (h k hkl), fun _ k' hk' hn' he' => by
        have : k' = k := by
          rcases Nat.lt_trichotomy k' k with h | h | h
          · exact absurd he' (hno k' h)
          · exact h
          · exact absurd he (hn' k h)
        subst this; exact ⟨rfl, rfl⟩⟩
    go_enter Try.func7, Try.ntmps7
    go_wp2_with (go_at_call 25; fail)
    refine calls_w (InHm w (.slice (some ⟨b, off, none⟩) l.length cap)) HI.out ?_
    clear HI
    intro u i
    refine (hs u i.bel).mono ?_
    rintro r u1 ⟨rfl, hb1⟩
    replace i := i.up hb1
    clear hb1 hs hR0 hv hz s1 hl hc
    obtain ⟨m, hm⟩ : ∃ m, m = l.length := ⟨_, rfl⟩
    have HM : Hid (m = l.length) := hm
    rw [← hm] at i hlc hl8 ⊢
    clear hm
    have x0 := i.cell
    go_wp2_with fail
    have HI1 : Hid (InHm w (.slice (some ⟨b, off, none⟩) m cap) u1) := i
    clear x0 i
    go_loopw [5] (fun i u => ∃ k : Nat, k ≤ m ∧ i = .int .i64 k ∧ Hid (NoneTo l n k) ∧ Hid (InHm w (.slice (some ⟨b, off, none⟩) m cap) u)) (fun i _ => m - (intOf i).toNat)
    case atStart => exact ⟨0, Nat.zero_le _, rfl, fun j h => by omega, HI1⟩
    case round =>
      clear HI1
      obtain ⟨k, hk, rfl, HN, HU⟩ := hrel
      have x0 := HU.out.cell
      by_cases hlt : k < m
      · have hlt' : k < l.length := by rw [← HM.out]; exact hlt
        obtain ⟨c1, c2⟩ := HR.out wr HU.out.bel k hlt'
        obtain ⟨z, hz'⟩ : ∃ z, z = (l.getD k ln0).1 := ⟨_, rfl⟩
        rw [← hz'] at c1
        by_cases e : z = n
        · have e1 : (z == n) = true := by simp [e]
          have HV : Hid (HearS l n (l.drop k) 0) := HV0.out k hlt' HN.out (by rw [← hz']; exact e)
          obtain ⟨i0, hi, hz0, hz1, hz2⟩ := info_parts infoSt
          have hnc : ¬ cap = k := by omega
          have hkm : k ≤ m := hk
          clear HV0 HV6 HN hz' e
          have x1 : ∀ o, (wr.alloc o).cell? ⟨w.heap.size, 0, none⟩ = some (.slice (some ⟨b, off, none⟩) m cap) := fun o => (HU.out.up (rw.up_alloc _ o)).cell
          have hU1 := HU.out.up (rw.up_alloc wr (.cells #[] 46))
          have hnews := (HR.out _ hU1.bel).news k
          have hlen : (flat (l.drop k)).length = (m - k) * 2 := by rw [flat_length, List.length_drop, ← HM.out]
          have hone := flat_one (l.drop k)
          have hlit := OwS.lit wr
          have hw2 : w.heap.size + 1 < wr.heap.size := HU.out.res.lt
          have HG : Hid (∀ w4, (wr.alloc (.cells #[] 46)).grownBy w4 (some wr.heap.size) → InHm w (.slice (some ⟨b, off, none⟩) m cap) w4) := fun w4 hg => hU1.grown hlit hw2 hg
          have HL : Hid (m - k = (l.drop k).length) := by show _ = _; rw [List.length_drop, ← HM.out]
          clear HU c2 hU1
          go_wp2_with (at_builtin; refine wpList_append_own _ rfl (.tmp 25) (.tmp 29) 26 rfl wr.heap.size 46 i0 (.agg #[.int .i64 0, .string ⟨#[]⟩]) 2 24 Try.underlying26 hi hz0 hz1 hz2 rfl (by decide) (.slice (some ⟨wr.heap.size, 0, none⟩) 0 0) 0 [] rfl hlit ⟨b, off + k * 2, none⟩ (m - k) (cap - k) (flat (l.drop k)) rfl hlen hnews hone (by unfold maxLen; omega) (by omega) (by simp) ?_; intro v4 w4 hown hgr hnil; clear hnil; have hi4 := HG.out w4 hgr; have ho4 : OwS wr.heap.size v4 (l.drop k) w4 := (by have := hown; rw [Nat.zero_add, List.nil_append, HL.out] at this; exact this); obtain ⟨p4, c4, hp4⟩ := ho4.shape; subst hp4; obtain ⟨r0, r1, r2⟩ := hi4.rcells; clear hown hgr hlit hnews hone hlen HG)
          have hne4 : (Value.slice p4 (l.length - k) c4).ownBlock ≠ some (w.heap.size + 1) := fun e => by
            have := (ho4.block _ (by rw [List.length_drop]; exact e)).1
            omega
          rw [List.length_drop] at ho4
          obtain ⟨d1, d2⟩ := hi4.fin (.slice p4 (l.length - k) c4) (.int .i64 0)
          have ho5 : OwS wr.heap.size (.slice p4 (l.length - k) c4) (l.drop k) (fillS w4 (w.heap.size + 1) (.slice p4 (l.length - k) c4) (.int .i64 0)) :=
            World.ownsRow.kept (World.ownsRow.kept ho4 (Go.Lib.grownBy_setCell w4 (w.heap.size + 1) 0 _) (.inr hne4)) (Go.Lib.grownBy_setCell _ (w.heap.size + 1) 1 _) (.inr hne4)
          exact bodyPost_ret (results_cell_row Try.results7 _ _ (w.heap.size + 1) _ #[.slice p4 (l.length - k) c4, .int .i64 0] _ _ rfl d1 Try.underlying30 rfl infoSO) rfl ⟨_, _, HV.out, _, rfl, d2, OwnX.of ho5, fun b' hb' => by
            obtain ⟨h1, cur, h2⟩ := ho5.block b' hb'
            exact ⟨by omega, heap_lt h2⟩⟩
        · have e1 : (z == n) = false := by simp [e]
          have HF : Hid (NoneTo l n (k + 1)) := fun j hj => by
            by_cases ej : j = k
            · subst ej; rw [← hz']; exact e
            · exact HN.out j (by omega)
          clear HV0 HV6 HN hz' e
          go_wp2
          exact ⟨⟨k + 1, by omega, by go_num, HF, HU⟩, by simp [intOf]; omega⟩
      · obtain rfl : k = m := by omega
        have HV : Hid (HearS l n [] 6) := HV6.out (by rw [← HM.out]; exact HN.out)
        obtain ⟨r0, r1, r2⟩ := HU.out.rcells
        have HD : Hid _ := HU.out.fin (.slice none 0 0) (.int .i64 6)
        clear HV0 HV6 HN HU
        go_wp2
        obtain ⟨d1, d2⟩ := HD.out
        exact bodyPost_ret (results_cell_row Try.results7 _ _ (w.heap.size + 1) _ #[.slice none 0 0, .int .i64 6] _ _ rfl d1 Try.underlying30 rfl infoSO) rfl ⟨_, _, HV.out, _, rfl, d2, .inl ⟨rfl, rfl⟩, noBlock⟩
  · rw [decide_eq_false s1] at hs
    have HV : Hid (HearS l n [] 1) := ⟨fun _ => ⟨rfl, rfl⟩, fun h => absurd h s1, fun h => absurd h s1⟩
    clear s1
    go_enter Try.func7, Try.ntmps7
    go_wp2_with (go_at_call 25; fail)
    refine calls_w (InHm w v) HI.out ?_
    clear HI
    intro u i
    refine (hs u i.bel).mono ?_
    rintro r u1 ⟨rfl, hb⟩
    replace i := i.up hb
    clear hb hs
    obtain ⟨r0, r1, r2⟩ := i.rcells
    have HD : Hid _ := i.fin (.slice none 0 0) (.int .i64 1)
    clear i hv hc
    go_wp2
    obtain ⟨d1, d2⟩ := HD.out
    exact bodyPost_ret (results_cell_row Try.results7 _ _ (w.heap.size + 1) _ #[.slice none 0 0, .int .i64 1] _ _ rfl d1 Try.underlying30 rfl infoSO) rfl ⟨_, _, HV.out, _, rfl, d2, .inl ⟨rfl, rfl⟩, noBlock⟩
end Go.Proofs.Ytjjfdkmhoocfhab.st
