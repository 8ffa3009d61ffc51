/-
  The program's queueOf: a right sender's states in a row of the call's own. No condition.
-/
import Derived.Test.YtjjfdkmhoocfhaaStQ2
import Derived.Test.YtjjfdkmhoocfhaaStR1
import Derived.Test.YtjjfdkmhoocfhaaJoin
namespace Go.Proofs.Ytjjfdkmhoocfhaa.st
open Go.ChangeShapes Go.WideShapes Go.ChangeAt Go.RowKit
open Go.Proofs.Ytjjfdkmhoocfhaa.wi (heap_lt calls_w wp_w)
set_option linter.unusedVariables false

theorem joined1_at (s : ByteArray) (g : Nat) (u : World) (h : rw.At u g #[.string s] 9) (hs : s.size ≤ 1099511627776) :
    Calls Try.prog 39 #[.slice (some ⟨g, 0, none⟩) 1 1] u fun e w' => e = .returned (.string s) ∧ Below u.heap.size u w' := by
  refine (jo.joined_any [s] g 1 u h.lt (by simp) (by rw [jo.total_one]; omega) (fun i hi => ?_)).mono ?_
  · match i, hi with
    | 0, _ => exact h.cell 0
  · rintro e w' ⟨rfl, hb⟩
    rw [jo.joinB_one]
    exact ⟨rfl, hb⟩
theorem take_succ' (l : List Ln) (k : Nat) (h : k < l.length) : l.take (k + 1) = l.take k ++ [((l.getD k ln0).1, (l.getD k ln0).2)] := by
  rw [List.take_succ_eq_append_getElem h, List.getD_eq_getElem?_getD, List.getElem?_eq_getElem h]; rfl
set_option maxHeartbeats 4000000 in
theorem queue_any (b off cap : Nat) (l : List Ln) (w : World) (hl : l.length ≤ 8) (hz : ∀ k, k < l.length → (l.getD k ln0).2.size ≤ 400) (hb : b < w.heap.size) (hR : Row w b off l) :
    Calls Try.prog 51 #[.agg #[.slice (some ⟨b, off, none⟩) l.length cap]] w fun e w' => ∃ q v, e = .returned (.pointer (some ⟨q, 0, none⟩)) ∧ InQ w w.heap.size q w.heap.size v l w' := by
  have HR : Hid (∀ u, Below w.heap.size w u → ∀ k, k < l.length → u.cell? ⟨b, off + k * 2, none⟩ = some (.int .i64 (l.getD k ln0).1) ∧ u.cell? ⟨b, off + k * 2 + 1, none⟩ = some (.string (l.getD k ln0).2)) := fun u hu k hk => (hR.below hu hb) k hk
  have HZ : Hid (∀ k, k < l.length → (l.getD k ln0).2.size ≤ 400) := hz
  have HT : Hid (∀ k, k < l.length → l.take (k + 1) = l.take k ++ [((l.getD k ln0).1, (l.getD k ln0).2)]) := fun k hk => take_succ' l k hk
  have HTL : Hid (l.take l.length = l) := List.take_length
  obtain ⟨n, hn⟩ : ∃ n, n = l.length := ⟨_, rfl⟩
  have HI0 : Hid (InQ w w.heap.size (w.heap.size + 1) w.heap.size (.slice none 0 0) (l.take 0) ((w.alloc (.cells #[.slice (some ⟨b, off, none⟩) n cap] 49)).alloc (.cells #[.slice none 0 0] 79))) := by
    refine ⟨((Below.refl _ _).alloc (Nat.le_refl _) _).alloc (by simp) _, ?_, ?_, by omega, Nat.le_refl _, by simp; omega⟩
    · have := rw.At.new (w.alloc (.cells #[.slice (some ⟨b, off, none⟩) n cap] 49)) #[.slice none 0 0] 79
      rwa [World.size_alloc] at this
    · rw [List.take_zero]; exact OwS.nil _ _
  rw [← hn] at HR HZ HT HTL hl ⊢
  have HTN : Hid (∀ k, (l.take k).length ≤ n) := fun k => by rw [hn]; exact List.length_take_le' k l
  clear hz hR hn
  go_enter Try.func51, Try.ntmps51
  go_wp2_with fail
  refine wp_w (fun u => ∃ v, InQ w w.heap.size (w.heap.size + 1) w.heap.size v (l.take 0) u) ⟨_, HI0.out⟩ ?_
  clear HI0
  rintro uu ⟨vv, hi0⟩
  obtain ⟨q, hq⟩ : ∃ q, q = w.heap.size + 1 := ⟨_, rfl⟩
  rw [← hq] at hi0 ⊢
  clear hq
  go_loopw [11] (fun i u => ∃ k : Nat, k ≤ n ∧ i = .int .i64 k ∧ Hid (∃ v, InQ w w.heap.size q w.heap.size v (l.take k) u)) (fun i _ => n - (intOf i).toNat)
  case atStart => exact ⟨0, Nat.zero_le _, rfl, _, hi0⟩
  case round =>
    clear hi0
    obtain ⟨k, hk, rfl, HU⟩ := hrel
    obtain ⟨v, iq⟩ := HU.out
    clear HU
    by_cases hlt : k < n
    · obtain ⟨c1, c2⟩ := HR.out wr iq.bel k hlt
      have h4 := HZ.out k hlt
      have HT1 := HT.out k hlt
      have hkl : (l.take k).length ≤ 1000 := Nat.le_trans (HTN.out k) (by omega)
      obtain ⟨x, hx⟩ : ∃ x, x = (l.getD k ln0).2 := ⟨_, rfl⟩
      obtain ⟨z, hz'⟩ : ∃ z, z = (l.getD k ln0).1 := ⟨_, rfl⟩
      rw [← hx] at c2 h4 HT1
      rw [← hz'] at c1 HT1
      have HT2 : Hid (l.take (k + 1) = l.take k ++ [(z, x)]) := HT1
      clear hx hz' HT1
      go_wp2_with fail
      obtain ⟨c, hc⟩ : ∃ c, c = wr.heap.size := ⟨_, rfl⟩
      have hcq : c ≠ q := by rw [hc]; exact Nat.ne_of_gt iq.box.lt
      have hoc : ∀ j, v.ownBlock = some j → j ≠ c := fun j hj => by
        obtain ⟨_, cur, hg⟩ := iq.own.block j hj
        rw [hc]; exact Nat.ne_of_lt (heap_lt hg)
      have i0 : rw.At (wr.alloc (.cells #[.int .i64 z, .string x] 28)) c #[.int .i64 z, .string x] 28 := by rw [hc]; exact rw.At.new _ _ _
      have iq0 := iq.up (rw.up_alloc wr (.cells #[.int .i64 z, .string x] 28))
      rw [← hc]
      generalize wr.alloc (.cells #[.int .i64 z, .string x] 28) = W0 at *
      clear iq c1 c2 hc
      have HJ : Hid (∀ (u : World) (g : Nat), rw.At u g #[.string x] 9 → Calls Try.prog 39 #[.slice (some ⟨g, 0, none⟩) 1 1] u fun e w' => e = .returned (.string x) ∧ Below u.heap.size u w') := fun u g h => joined1_at _ g u h (by omega)
      have HS : Hid (∀ u, rw.At u c #[.int .i64 z, .string x] 28 → (u.cell? ⟨c, 0, none⟩ = some (.int .i64 z) ∧ u.cell? ⟨c, 1, none⟩ = some (.string x))) := fun u h => ⟨h.cell 0, h.cell 1⟩
      refine wp_region_noPanic ?_
      refine wp_region_held_drew (S := fun u => u.cell? ⟨c, 0, none⟩ = some (.int .i64 z) ∧ u.cell? ⟨c, 1, none⟩ = some (.string x)) (by kernel_rfl) (HS.out _ (i0.up (rw.up_drew _))) (fun _ => ?_)
      refine rw.region_w (fun u => (rw.At u c #[.int .i64 z, .string x] 28) ∧ (InQ w w.heap.size q w.heap.size v (l.take k) u)) ⟨i0.up (rw.up_drew _), iq0.up (rw.up_drew _)⟩ ?_
      clear i0 iq0
      rintro u ⟨i, iq⟩
      have hHeld : (u.cell? ⟨c, 0, none⟩ = some (.int .i64 z) ∧ u.cell? ⟨c, 1, none⟩ = some (.string x)) := HS.out u i
      refine wpAnyH_take (i := 0) (oi := { dst := some 15, op := Op.move (Operand.tmp 3), type := 75, pos := "l07_sync.go:145", after := #[], guard := none }) (v := ?_) rfl (by kernel_rfl) (by kernel_rfl) (by kernel_rfl) (fun _ _ _ h => h) (Or.inl ⟨by rfl, ?_⟩) hHeld ?_
      rotate_left
      · rintro w ⟨z0, z1⟩; go_simp; (try with_reducible rfl)
      try simp only [Act.put, List.setIfInBounds_toArray, List.set_cons_zero, List.set_cons_succ]
      refine wpAnyH_take (i := 1) (oi := { dst := some 16, op := Op.fieldAddr 28 (Operand.tmp 5) 0, type := 0, pos := "l07_sync.go:145", after := #[], guard := none }) (v := ?_) rfl (by kernel_rfl) (by kernel_rfl) (by kernel_rfl) (fun _ _ _ h => h) (Or.inl ⟨by rfl, ?_⟩) hHeld ?_
      rotate_left
      · rintro w ⟨z0, z1⟩; go_simp; (try with_reducible rfl)
      try simp only [Act.put, List.setIfInBounds_toArray, List.set_cons_zero, List.set_cons_succ]
      refine wpAnyH_take (i := 2) (oi := { dst := some 17, op := Op.load 2 (Operand.tmp 16), type := 2, pos := "l07_sync.go:145", after := #[{ on := 1, ground := Ground.data }], guard := none }) (v := ?_) rfl (by kernel_rfl) (by kernel_rfl) (by kernel_rfl) (fun _ _ _ h => h) (Or.inl ⟨by rfl, ?_⟩) hHeld ?_
      rotate_left
      · rintro w ⟨z0, z1⟩; go_simp; (try with_reducible rfl)
      try simp only [Act.put, List.setIfInBounds_toArray, List.set_cons_zero, List.set_cons_succ]
      refine wpAnyH_take (i := 3) (oi := { dst := some 18, op := Op.fieldAddr 28 (Operand.tmp 5) 1, type := 0, pos := "l07_sync.go:145", after := #[], guard := none }) (v := ?_) rfl (by kernel_rfl) (by kernel_rfl) (by kernel_rfl) (fun _ _ _ h => h) (Or.inl ⟨by rfl, ?_⟩) hHeld ?_
      rotate_left
      · rintro w ⟨z0, z1⟩; go_simp; (try with_reducible rfl)
      try simp only [Act.put, List.setIfInBounds_toArray, List.set_cons_zero, List.set_cons_succ]
      refine wpAnyH_take (i := 4) (oi := { dst := some 19, op := Op.load 9 (Operand.tmp 18), type := 9, pos := "l07_sync.go:145", after := #[{ on := 3, ground := Ground.data }], guard := none }) (v := ?_) rfl (by kernel_rfl) (by kernel_rfl) (by kernel_rfl) (fun _ _ _ h => h) (Or.inl ⟨by rfl, ?_⟩) hHeld ?_
      rotate_left
      · rintro w ⟨z0, z1⟩; go_simp; (try with_reducible rfl)
      try simp only [Act.put, List.setIfInBounds_toArray, List.set_cons_zero, List.set_cons_succ]
      refine wpAnyH_ready (rs := [5]) (by kernel_rfl) (by simp) ?_
      refine AllReadyH.cons rfl (fun K hK => ?_) AllReadyH.nil
      go_simp
      refine hK.out _ _ (HS.out _ (i.up (rw.up_alloc _ _))) (fun _ => ?_)
      clear hK K hHeld
      try simp only [Act.put, List.setIfInBounds_toArray, List.set_cons_zero, List.set_cons_succ]
      obtain ⟨g, hg⟩ : ∃ g, g = u.heap.size := ⟨_, rfl⟩
      rw [← hg]
      have ngc : c < g := by rw [hg]; exact i.lt
      refine rw.region_w (fun u => (rw.At u c #[.int .i64 z, .string x] 28) ∧ (InQ w w.heap.size q w.heap.size v (l.take k) u) ∧ (rw.At u g #[.string x] 9)) ⟨i.up (rw.up_alloc _ _), iq.up (rw.up_alloc _ _), by rw [hg]; exact rw.At.new _ _ _⟩ ?_
      clear i iq
      rintro u ⟨i, iq, g0⟩
      have hHeld : (u.cell? ⟨c, 0, none⟩ = some (.int .i64 z) ∧ u.cell? ⟨c, 1, none⟩ = some (.string x)) := HS.out u i
      clear hg
      refine wpAnyH_ready (rs := [6]) (by kernel_rfl) (by simp) ?_
      refine AllReadyH.cons rfl (fun K hK => ?_) AllReadyH.nil
      go_simp
      go_at_call 39
      refine (HJ.out _ _ g0).mono ?_
      rintro r7 w7 ⟨rfl, hb⟩
      go_wp2_with fail
      refine hK.out _ _ (HS.out _ (i.up hb)) (fun _ => ?_)
      clear hK K hHeld
      try simp only [Act.put, List.setIfInBounds_toArray, List.set_cons_zero, List.set_cons_succ]
      refine rw.region_w (fun u => (rw.At u c #[.int .i64 z, .string x] 28) ∧ (InQ w w.heap.size q w.heap.size v (l.take k) u) ∧ (rw.At u g #[.string x] 9)) ⟨i.up hb, iq.up hb, g0.up hb⟩ ?_
      clear i iq g0 hb
      rintro u ⟨i, iq, g0⟩
      have hHeld : (u.cell? ⟨c, 0, none⟩ = some (.int .i64 z) ∧ u.cell? ⟨c, 1, none⟩ = some (.string x)) := HS.out u i
      refine wpAnyH_take (i := 7) (oi := { dst := some 22, op := Op.build 28 #[(0, Operand.tmp 17), (1, Operand.tmp 21)], type := 28, pos := "l07_sync.go:145", after := #[{ on := 2, ground := Ground.data }, { on := 6, ground := Ground.data }], guard := none }) (v := ?_) rfl (by kernel_rfl) (by kernel_rfl) (by kernel_rfl) (fun _ _ _ h => h) (Or.inl ⟨by rfl, ?_⟩) hHeld ?_
      rotate_left
      · rintro w ⟨z0, z1⟩; go_simp; (try with_reducible rfl)
      try simp only [Act.put, List.setIfInBounds_toArray, List.set_cons_zero, List.set_cons_succ]
      refine wpAnyH_ready (rs := [8]) (by kernel_rfl) (by simp) ?_
      refine AllReadyH.cons rfl (fun K hK => ?_) AllReadyH.nil
      go_simp
      go_at_call 53
      refine (add_any u w w.heap.size q w.heap.size v (l.take k) z x u iq (fun _ _ _ hc _ _ => hc) hkl).mono ?_
      rintro r7 w7 ⟨rfl, ⟨v7, hq7⟩, hf7⟩
      have i7 := hf7 c _ _ i hcq hoc
      go_wp2_with fail
      refine hK.out _ _ (HS.out _ i7) (fun _ => ?_)
      clear hK K hHeld i iq hf7
      try simp only [Act.put, List.setIfInBounds_toArray, List.set_cons_zero, List.set_cons_succ]
      refine wpAnyH_done (by kernel_rfl) ?_ _
      refine NoPanic.normal ?_
      have HF : Hid (∃ v, InQ w w.heap.size q w.heap.size v (l.take (k + 1)) w7) := ⟨v7, by rw [HT2.out]; exact hq7⟩
      clear hq7 i7 HT2 HJ HS hoc
      go_wp2
      exact ⟨⟨k + 1, by omega, by go_num, HF⟩, by simp [intOf]; omega⟩
    · obtain rfl : k = n := by omega
      have HF : Hid (InQ w w.heap.size q w.heap.size v l wr) := by
        have := iq
        rwa [HTL.out] at this
      clear iq
      go_wp2
      go_ret
      exact ⟨_, _, rfl, HF.out⟩
end Go.Proofs.Ytjjfdkmhoocfhaa.st
