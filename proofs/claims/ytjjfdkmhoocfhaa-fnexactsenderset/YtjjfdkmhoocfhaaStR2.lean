/-
  The model's SenderRight at every sender: it tells what the plain condition tells; no old block turns. No condition.
-/
import Derived.Test.YtjjfdkmhoocfhaaStR1
namespace Go.Proofs.Ytjjfdkmhoocfhaa.st
open Go.ChangeShapes Go.WideShapes Go.ChangeAt Go.RowKit
open Go.Proofs.Ytjjfdkmhoocfhaa.wi (heap_lt calls_w wp_w)
open Classical
set_option linter.unusedVariables false

/-- at work: the sender's block -/
def InS (w : World) (v : Value) (u : World) : Prop := Below w.heap.size w u ∧ rw.At u w.heap.size #[v] 49
theorem InS.new {w : World} {v : Value} : InS w v (w.alloc (.cells #[v] 49)) := ⟨(Below.refl _ _).alloc (Nat.le_refl _) _, rw.At.new _ _ _⟩
theorem InS.up {w u u' : World} {v : Value} (h : InS w v u) (hb : Below u.heap.size u u') : InS w v u' := ⟨h.1.trans (hb.mono h.1.size), h.2.up hb⟩
theorem InS.cell {w u : World} {v : Value} (h : InS w v u) : u.cell? ⟨w.heap.size, 0, none⟩ = some v := h.2.cell 0
theorem InS.drewN {w u : World} {v : Value} (h : InS w v u) (k : Nat) : InS w v (u.drewN k) := ⟨ss.below_drewN h.1 k, h.2⟩
theorem InS.drew {w u : World} {v : Value} (h : InS w v u) : InS w v u.drew := h.up (rw.up_drew _)
set_option maxHeartbeats 1000000 in
theorem sndM_any (v : Value) (l : List Ln) (w : World) (hl : l.length ≤ maxLen) (hz : ∀ r ∈ l, r.2.size ≤ maxLen) (hv : SliceIs w v l) :
    Calls Try.prog 20 #[.agg #[v]] w fun r w' => r = .returned (.bool (decide (SndR l))) ∧ Below w.heap.size w w' := by
  have HI0 : Hid (InS w v (w.alloc (.cells #[v] 49))) := InS.new
  rcases hv with ⟨p, cap, rfl, rfl⟩ | ⟨b, off, cap, hb, rfl, hR0⟩
  · have HF : Hid (false = decide (SndR [])) := (decide_eq_false (fun h : SndR [] => by have := h.1.1; simp at this)).symm
    have hw := is_any 0 1 8
    rw [decide_eq_false (by omega)] at hw
    go_enter Try.func20, Try.ntmps20
    go_wp2
    refine wp_loop_rounds 1 ?_
    rw [rounds_succ]
    go_wp2_with (go_at_call 40; (with_reducible refine (hw _).mono ?_); rintro r w' ⟨rfl, hw'⟩; obtain rfl := hw'.symm)
    go_ret
    exact ⟨ret_b HF.out, HI0.out.1⟩
  · have HZ : Hid (∀ k, k < l.length → (l.getD k ln0).2.size ≤ maxLen) := fun k hk => by
      rw [List.getD_eq_getElem?_getD, List.getElem?_eq_getElem hk]; exact hz _ (List.getElem_mem hk)
    have HD : Hid (RightTo l l.length → decide (SndR l) = decide (1 ≤ (l.length : Int) ∧ (l.length : Int) ≤ 8)) := fun h => by
      rw [decide_eq_decide]; exact ⟨fun h' => by have := h'.1; omega, fun h' => h.done (by omega)⟩
    have HN : Hid (∀ k, k < l.length → ¬ (StR (l.getD k ln0).1 (l.getD k ln0).2 ∧ leastAt l k ≤ (l.getD k ln0).1) → decide (SndR l) = false) := fun k hk h => decide_eq_false (SndR.not hk h)
    have hw := is_any (l.length : Int) 1 8
    have hn9 : (l.length : Int) ≤ 9223372036854775807 := by unfold maxLen at hl; omega
    obtain ⟨n, hn⟩ : ∃ n, n = l.length := ⟨_, rfl⟩
    have HR : Hid (∀ u, Below w.heap.size w u → ∀ k, k < n → u.cell? ⟨b, off + k * 2, none⟩ = some (.int .i64 (l.getD k ln0).1) ∧ u.cell? ⟨b, off + k * 2 + 1, none⟩ = some (.string (l.getD k ln0).2)) := fun u hu k hk => (hR0.below hu hb) k (by omega)
    rw [← hn] at hw HZ HD HN HI0 hn9 ⊢
    clear hn hR0 hz hl
    go_enter Try.func20, Try.ntmps20
    go_wp2_with fail
    refine wp_w (InS w (.slice (some ⟨b, off, none⟩) n cap)) HI0.out ?_
    clear HI0
    intro u0 i0
    go_loopw [3] (fun i u => ∃ k : Nat, k ≤ n ∧ i = .int .i64 k ∧ Hid (RightTo l k) ∧ Hid (InS w (.slice (some ⟨b, off, none⟩) n cap) u)) (fun i _ => n - (intOf i).toNat)
    case atStart => exact ⟨0, Nat.zero_le _, rfl, RightTo.zero l, i0⟩
    case round =>
      clear i0
      obtain ⟨k, hk, rfl, HG, HU⟩ := hrel
      have x0 := HU.out.cell
      by_cases hlt : k < n
      · obtain ⟨c1, c2⟩ := HR.out wr HU.out.1 k hlt
        have h4 := HZ.out k hlt
        have HN1 := HN.out k hlt
        have HS : Hid (StR (l.getD k ln0).1 (l.getD k ln0).2 → leastAt l k ≤ (l.getD k ln0).1 → RightTo l (k + 1)) := HG.out.succ
        have hs0 : ∀ u, Calls Try.prog 35 #[.agg #[.int .i64 (l.getD k ln0).1, .string (l.getD k ln0).2]] u fun e w' => e = .returned (.bool (decide (StR (l.getD k ln0).1 (l.getD k ln0).2))) ∧ Below u.heap.size u w' := fun u => stateM_any _ _ u h4
        have hki : (k : Int) < (n : Int) := by omega
        by_cases s1 : StR (l.getD k ln0).1 (l.getD k ln0).2
        · rw [decide_eq_true s1] at hs0
          by_cases h0 : k = 0
          · have HQ : Hid (RightTo l (k + 1)) := HS.out s1 (by rw [h0]; show (0 : Int) ≤ _; have := s1.1.1; rwa [h0] at this)
            have HK0 : Hid (k = 0) := h0
            clear HN1 HS s1 HG h0
            obtain ⟨x, hx⟩ : ∃ x, x = (l.getD k ln0).2 := ⟨_, rfl⟩
            obtain ⟨z, hz'⟩ : ∃ z, z = (l.getD k ln0).1 := ⟨_, rfl⟩
            have HR2 : Hid (∀ u, Below w.heap.size w u → u.cell? ⟨b, off + k * 2, none⟩ = some (.int .i64 z) ∧ u.cell? ⟨b, off + k * 2 + 1, none⟩ = some (.string x)) := fun u hu => by rw [hx, hz']; exact HR.out u hu k hlt
            rw [← hx] at c2 h4 hs0
            rw [← hz'] at c1 hs0
            have hs := fun u => hs0 u
            clear hs0 hx hz'
            go_wp2_with fail
            have HSx : Hid (∀ u, InS w (.slice (some ⟨b, off, none⟩) n cap) u → (u.cell? ⟨w.heap.size, 0, none⟩ = some (.slice (some ⟨b, off, none⟩) n cap) ∧ u.cell? ⟨b, off + k * 2, none⟩ = some (.int .i64 z) ∧ u.cell? ⟨b, off + k * 2 + 1, none⟩ = some (.string x))) := fun u hu => ⟨hu.cell, (HR2.out u hu.1).1, (HR2.out u hu.1).2⟩
            have i := HU.out
            clear HU c1 c2 x0 HR2
            refine wp_region_noPanic ?_
            refine wp_region_held_drew (S := fun u => u.cell? ⟨w.heap.size, 0, none⟩ = some (.slice (some ⟨b, off, none⟩) n cap) ∧ u.cell? ⟨b, off + k * 2, none⟩ = some (.int .i64 z) ∧ u.cell? ⟨b, off + k * 2 + 1, none⟩ = some (.string x)) (by kernel_rfl) (HSx.out _ (i.drew)) (fun _ => ?_)
            refine rw.region_w (fun u => InS w (.slice (some ⟨b, off, none⟩) n cap) u) (i.drew) ?_
            clear i
            intro u i
            have hHeld : (u.cell? ⟨w.heap.size, 0, none⟩ = some (.slice (some ⟨b, off, none⟩) n cap) ∧ u.cell? ⟨b, off + k * 2, none⟩ = some (.int .i64 z) ∧ u.cell? ⟨b, off + k * 2 + 1, none⟩ = some (.string x)) := HSx.out u i
            refine wpAnyH_take (i := 0) (oi := { dst := some 11, op := Op.fieldAddr 49 (Operand.tmp 1) 0, type := 0, pos := "l07_sync.go:40", after := #[], guard := none }) (v := ?_) rfl (by kernel_rfl) (by kernel_rfl) (by kernel_rfl) (fun _ _ _ h => h) (Or.inl ⟨by rfl, ?_⟩) hHeld ?_
            rotate_left
            · rintro w ⟨z0, z1, z2⟩; go_simp; (try with_reducible rfl)
            try simp only [Act.put, List.setIfInBounds_toArray, List.set_cons_zero, List.set_cons_succ]
            refine wpAnyH_take (i := 1) (oi := { dst := some 12, op := Op.load 47 (Operand.tmp 11), type := 47, pos := "l07_sync.go:40", after := #[{ on := 0, ground := Ground.data }], guard := none }) (v := ?_) rfl (by kernel_rfl) (by kernel_rfl) (by kernel_rfl) (fun _ _ _ h => h) (Or.inl ⟨by rfl, ?_⟩) hHeld ?_
            rotate_left
            · rintro w ⟨z0, z1, z2⟩; go_simp; (try with_reducible rfl)
            try simp only [Act.put, List.setIfInBounds_toArray, List.set_cons_zero, List.set_cons_succ]
            refine wpAnyH_take (i := 2) (oi := { dst := some 13, op := Op.move (Operand.tmp 3), type := 3, pos := "l07_sync.go:40", after := #[], guard := none }) (v := ?_) rfl (by kernel_rfl) (by kernel_rfl) (by kernel_rfl) (fun _ _ _ h => h) (Or.inl ⟨by rfl, ?_⟩) hHeld ?_
            rotate_left
            · rintro w ⟨z0, z1, z2⟩; go_simp; (try with_reducible rfl)
            try simp only [Act.put, List.setIfInBounds_toArray, List.set_cons_zero, List.set_cons_succ]
            refine wpAnyH_take (i := 3) (oi := { dst := some 14, op := Op.indexAddr 47 (Operand.tmp 12) (Operand.tmp 13), type := 0, pos := "l07_sync.go:40", after := #[{ on := 1, ground := Ground.data }, { on := 2, ground := Ground.data }], guard := none }) (v := ?_) rfl (by kernel_rfl) (by kernel_rfl) (by kernel_rfl) (fun _ _ _ h => h) (Or.inl ⟨by rfl, ?_⟩) hHeld ?_
            rotate_left
            · rintro w ⟨z0, z1, z2⟩; go_simp; (try with_reducible rfl)
            try simp only [Act.put, List.setIfInBounds_toArray, List.set_cons_zero, List.set_cons_succ]
            refine wpAnyH_take (i := 4) (oi := { dst := some 15, op := Op.load 28 (Operand.tmp 14), type := 28, pos := "l07_sync.go:40", after := #[{ on := 3, ground := Ground.data }], guard := none }) (v := ?_) rfl (by kernel_rfl) (by kernel_rfl) (by kernel_rfl) (fun _ _ _ h => h) (Or.inl ⟨by rfl, ?_⟩) hHeld ?_
            rotate_left
            · rintro w ⟨z0, z1, z2⟩; go_simp; (try with_reducible rfl)
            try simp only [Act.put, List.setIfInBounds_toArray, List.set_cons_zero, List.set_cons_succ]
            refine wpAnyH_ready (rs := [5]) (by kernel_rfl) (by simp) ?_
            refine AllReadyH.cons rfl (fun K hK => ?_) AllReadyH.nil
            go_simp
            go_at_call 35
            refine (hs u).mono ?_
            rintro r7 w7 ⟨rfl, hb⟩
            go_wp2_with fail
            refine hK.out _ _ (HSx.out _ (i.up hb)) (fun _ => ?_)
            clear hK K hHeld
            try simp only [Act.put, List.setIfInBounds_toArray, List.set_cons_zero, List.set_cons_succ]
            refine rw.region_w (fun u => InS w (.slice (some ⟨b, off, none⟩) n cap) u) (i.up hb) ?_
            clear i hb
            intro u i
            have hHeld : (u.cell? ⟨w.heap.size, 0, none⟩ = some (.slice (some ⟨b, off, none⟩) n cap) ∧ u.cell? ⟨b, off + k * 2, none⟩ = some (.int .i64 z) ∧ u.cell? ⟨b, off + k * 2 + 1, none⟩ = some (.string x)) := HSx.out u i
            refine wpAnyH_take (i := 6) (oi := { dst := some 17, op := Op.unOp UnOp.not 4 (Operand.tmp 16), type := 4, pos := "l07_sync.go:40", after := #[{ on := 5, ground := Ground.data }], guard := none }) (v := ?_) rfl (by kernel_rfl) (by kernel_rfl) (by kernel_rfl) (fun _ _ _ h => h) (Or.inl ⟨by rfl, ?_⟩) hHeld ?_
            rotate_left
            · rintro w ⟨z0, z1, z2⟩; go_simp; (try with_reducible rfl)
            try simp only [Act.put, List.setIfInBounds_toArray, List.set_cons_zero, List.set_cons_succ]
            refine wpAnyH_take (i := 7) (oi := { dst := some 18, op := Op.move (Operand.tmp 17), type := 4, pos := "l07_sync.go:40", after := #[{ on := 6, ground := Ground.data }, { on := 5, ground := Ground.chain }], guard := none }) (v := ?_) rfl (by kernel_rfl) (by kernel_rfl) (by kernel_rfl) (fun _ _ _ h => h) (Or.inl ⟨by rfl, ?_⟩) hHeld ?_
            rotate_left
            · rintro w ⟨z0, z1, z2⟩; go_simp; (try with_reducible rfl)
            try simp only [Act.put, List.setIfInBounds_toArray, List.set_cons_zero, List.set_cons_succ]
            refine wpAnyH_take (i := 8) (oi := { dst := some 19, op := Op.move (Operand.tmp 3), type := 3, pos := "l07_sync.go:40", after := #[{ on := 7, ground := Ground.guard }], guard := some (7, false) }) (v := ?_) rfl (by kernel_rfl) (by kernel_rfl) (by kernel_rfl) (fun _ _ _ h => h) (Or.inl ⟨by rfl, ?_⟩) hHeld ?_
            rotate_left
            · rintro w ⟨z0, z1, z2⟩; go_simp; (try with_reducible rfl)
            try simp only [Act.put, List.setIfInBounds_toArray, List.set_cons_zero, List.set_cons_succ]
            refine wpAnyH_take (i := 9) (oi := { dst := some 20, op := Op.binOp BinOp.gtr 3 (Operand.tmp 19) (Operand.const (Value.int IntKind.i64 0)) 3, type := 4, pos := "l07_sync.go:40", after := #[{ on := 8, ground := Ground.data }, { on := 7, ground := Ground.guard }], guard := some (7, false) }) (v := .bool false) rfl (by kernel_rfl) (by kernel_rfl) (by kernel_rfl) (fun _ _ _ h => h) (Or.inl ⟨by rfl, ?_⟩) hHeld ?_
            · rintro w ⟨z0, z1, z2⟩; go_simp; exact HK0.out
            try simp only [Act.put, List.setIfInBounds_toArray, List.set_cons_zero, List.set_cons_succ]
            refine wpAnyH_take (i := 10) (oi := { dst := some 21, op := Op.move (Operand.tmp 20), type := 4, pos := "l07_sync.go:40", after := #[{ on := 9, ground := Ground.data }, { on := 7, ground := Ground.chain }, { on := 7, ground := Ground.guard }], guard := some (7, false) }) (v := .bool false) rfl (by kernel_rfl) (by kernel_rfl) (by kernel_rfl) (fun _ _ _ h => h) (Or.inl ⟨by rfl, ?_⟩) hHeld ?_
            · rintro w ⟨z0, z1, z2⟩; go_simp; (try with_reducible rfl)
            try simp only [Act.put, List.setIfInBounds_toArray, List.set_cons_zero, List.set_cons_succ]
            refine wpAnyH_take (i := 11) (oi := { dst := some 22, op := Op.fieldAddr 49 (Operand.tmp 1) 0, type := 0, pos := "l07_sync.go:40", after := #[{ on := 10, ground := Ground.guard }], guard := some (10, true) }) (v := undef) rfl (by kernel_rfl) (by kernel_rfl) (by kernel_rfl) (fun _ _ _ h => h) (Or.inr ⟨by rfl, rfl⟩) hHeld ?_
            try simp only [Act.put, List.setIfInBounds_toArray, List.set_cons_zero, List.set_cons_succ]
            refine wpAnyH_take (i := 12) (oi := { dst := some 23, op := Op.load 47 (Operand.tmp 22), type := 47, pos := "l07_sync.go:40", after := #[{ on := 11, ground := Ground.data }, { on := 10, ground := Ground.guard }], guard := some (10, true) }) (v := undef) rfl (by kernel_rfl) (by kernel_rfl) (by kernel_rfl) (fun _ _ _ h => h) (Or.inr ⟨by rfl, rfl⟩) hHeld ?_
            try simp only [Act.put, List.setIfInBounds_toArray, List.set_cons_zero, List.set_cons_succ]
            refine wpAnyH_take (i := 13) (oi := { dst := some 24, op := Op.move (Operand.tmp 3), type := 3, pos := "l07_sync.go:40", after := #[{ on := 10, ground := Ground.guard }], guard := some (10, true) }) (v := undef) rfl (by kernel_rfl) (by kernel_rfl) (by kernel_rfl) (fun _ _ _ h => h) (Or.inr ⟨by rfl, rfl⟩) hHeld ?_
            try simp only [Act.put, List.setIfInBounds_toArray, List.set_cons_zero, List.set_cons_succ]
            refine wpAnyH_take (i := 14) (oi := { dst := some 25, op := Op.binOp BinOp.sub 3 (Operand.tmp 24) (Operand.const (Value.int IntKind.i64 1)) 3, type := 3, pos := "l07_sync.go:40", after := #[{ on := 13, ground := Ground.data }, { on := 10, ground := Ground.guard }], guard := some (10, true) }) (v := undef) rfl (by kernel_rfl) (by kernel_rfl) (by kernel_rfl) (fun _ _ _ h => h) (Or.inr ⟨by rfl, rfl⟩) hHeld ?_
            try simp only [Act.put, List.setIfInBounds_toArray, List.set_cons_zero, List.set_cons_succ]
            refine wpAnyH_take (i := 15) (oi := { dst := some 26, op := Op.indexAddr 47 (Operand.tmp 23) (Operand.tmp 25), type := 0, pos := "l07_sync.go:40", after := #[{ on := 12, ground := Ground.data }, { on := 14, ground := Ground.data }, { on := 10, ground := Ground.guard }], guard := some (10, true) }) (v := undef) rfl (by kernel_rfl) (by kernel_rfl) (by kernel_rfl) (fun _ _ _ h => h) (Or.inr ⟨by rfl, rfl⟩) hHeld ?_
            try simp only [Act.put, List.setIfInBounds_toArray, List.set_cons_zero, List.set_cons_succ]
            refine wpAnyH_take (i := 16) (oi := { dst := some 27, op := Op.fieldAddr 28 (Operand.tmp 26) 0, type := 0, pos := "l07_sync.go:40", after := #[{ on := 15, ground := Ground.data }, { on := 10, ground := Ground.guard }], guard := some (10, true) }) (v := undef) rfl (by kernel_rfl) (by kernel_rfl) (by kernel_rfl) (fun _ _ _ h => h) (Or.inr ⟨by rfl, rfl⟩) hHeld ?_
            try simp only [Act.put, List.setIfInBounds_toArray, List.set_cons_zero, List.set_cons_succ]
            refine wpAnyH_take (i := 17) (oi := { dst := some 28, op := Op.load 2 (Operand.tmp 27), type := 2, pos := "l07_sync.go:40", after := #[{ on := 16, ground := Ground.data }, { on := 10, ground := Ground.guard }], guard := some (10, true) }) (v := undef) rfl (by kernel_rfl) (by kernel_rfl) (by kernel_rfl) (fun _ _ _ h => h) (Or.inr ⟨by rfl, rfl⟩) hHeld ?_
            try simp only [Act.put, List.setIfInBounds_toArray, List.set_cons_zero, List.set_cons_succ]
            refine wpAnyH_take (i := 18) (oi := { dst := some 29, op := Op.fieldAddr 49 (Operand.tmp 1) 0, type := 0, pos := "l07_sync.go:40", after := #[{ on := 10, ground := Ground.guard }], guard := some (10, true) }) (v := undef) rfl (by kernel_rfl) (by kernel_rfl) (by kernel_rfl) (fun _ _ _ h => h) (Or.inr ⟨by rfl, rfl⟩) hHeld ?_
            try simp only [Act.put, List.setIfInBounds_toArray, List.set_cons_zero, List.set_cons_succ]
            refine wpAnyH_take (i := 19) (oi := { dst := some 30, op := Op.load 47 (Operand.tmp 29), type := 47, pos := "l07_sync.go:40", after := #[{ on := 18, ground := Ground.data }, { on := 10, ground := Ground.guard }], guard := some (10, true) }) (v := undef) rfl (by kernel_rfl) (by kernel_rfl) (by kernel_rfl) (fun _ _ _ h => h) (Or.inr ⟨by rfl, rfl⟩) hHeld ?_
            try simp only [Act.put, List.setIfInBounds_toArray, List.set_cons_zero, List.set_cons_succ]
            refine wpAnyH_take (i := 20) (oi := { dst := some 31, op := Op.move (Operand.tmp 3), type := 3, pos := "l07_sync.go:40", after := #[{ on := 10, ground := Ground.guard }], guard := some (10, true) }) (v := undef) rfl (by kernel_rfl) (by kernel_rfl) (by kernel_rfl) (fun _ _ _ h => h) (Or.inr ⟨by rfl, rfl⟩) hHeld ?_
            try simp only [Act.put, List.setIfInBounds_toArray, List.set_cons_zero, List.set_cons_succ]
            refine wpAnyH_take (i := 21) (oi := { dst := some 32, op := Op.indexAddr 47 (Operand.tmp 30) (Operand.tmp 31), type := 0, pos := "l07_sync.go:40", after := #[{ on := 19, ground := Ground.data }, { on := 20, ground := Ground.data }, { on := 10, ground := Ground.guard }], guard := some (10, true) }) (v := undef) rfl (by kernel_rfl) (by kernel_rfl) (by kernel_rfl) (fun _ _ _ h => h) (Or.inr ⟨by rfl, rfl⟩) hHeld ?_
            try simp only [Act.put, List.setIfInBounds_toArray, List.set_cons_zero, List.set_cons_succ]
            refine wpAnyH_take (i := 22) (oi := { dst := some 33, op := Op.fieldAddr 28 (Operand.tmp 32) 0, type := 0, pos := "l07_sync.go:40", after := #[{ on := 21, ground := Ground.data }, { on := 10, ground := Ground.guard }], guard := some (10, true) }) (v := undef) rfl (by kernel_rfl) (by kernel_rfl) (by kernel_rfl) (fun _ _ _ h => h) (Or.inr ⟨by rfl, rfl⟩) hHeld ?_
            try simp only [Act.put, List.setIfInBounds_toArray, List.set_cons_zero, List.set_cons_succ]
            refine wpAnyH_take (i := 23) (oi := { dst := some 34, op := Op.load 2 (Operand.tmp 33), type := 2, pos := "l07_sync.go:40", after := #[{ on := 22, ground := Ground.data }, { on := 10, ground := Ground.guard }], guard := some (10, true) }) (v := undef) rfl (by kernel_rfl) (by kernel_rfl) (by kernel_rfl) (fun _ _ _ h => h) (Or.inr ⟨by rfl, rfl⟩) hHeld ?_
            try simp only [Act.put, List.setIfInBounds_toArray, List.set_cons_zero, List.set_cons_succ]
            refine wpAnyH_take (i := 24) (oi := { dst := some 35, op := Op.binOp BinOp.geq 2 (Operand.tmp 28) (Operand.tmp 34) 2, type := 4, pos := "l07_sync.go:40", after := #[{ on := 17, ground := Ground.data }, { on := 23, ground := Ground.data }, { on := 10, ground := Ground.guard }], guard := some (10, true) }) (v := undef) rfl (by kernel_rfl) (by kernel_rfl) (by kernel_rfl) (fun _ _ _ h => h) (Or.inr ⟨by rfl, rfl⟩) hHeld ?_
            try simp only [Act.put, List.setIfInBounds_toArray, List.set_cons_zero, List.set_cons_succ]
            refine wpAnyH_take (i := 25) (oi := { dst := some 36, op := Op.pick (Operand.tmp 21) (Operand.tmp 35) (Operand.const (Value.bool false)), type := 4, pos := "l07_sync.go:40", after := #[{ on := 10, ground := Ground.data }, { on := 24, ground := Ground.data }, { on := 7, ground := Ground.guard }], guard := some (7, false) }) (v := .bool false) rfl (by kernel_rfl) (by kernel_rfl) (by kernel_rfl) (fun _ _ _ h => h) (Or.inl ⟨by rfl, ?_⟩) hHeld ?_
            · rintro w ⟨z0, z1, z2⟩; go_simp; (try with_reducible rfl)
            try simp only [Act.put, List.setIfInBounds_toArray, List.set_cons_zero, List.set_cons_succ]
            refine wpAnyH_take (i := 26) (oi := { dst := some 37, op := Op.pick (Operand.tmp 18) (Operand.const (Value.bool true)) (Operand.tmp 36), type := 4, pos := "l07_sync.go:40", after := #[{ on := 7, ground := Ground.data }, { on := 25, ground := Ground.data }], guard := none }) (v := .bool false) rfl (by kernel_rfl) (by kernel_rfl) (by kernel_rfl) (fun _ _ _ h => h) (Or.inl ⟨by rfl, ?_⟩) hHeld ?_
            · rintro w ⟨z0, z1, z2⟩; go_simp; (try with_reducible rfl)
            try simp only [Act.put, List.setIfInBounds_toArray, List.set_cons_zero, List.set_cons_succ]
            refine wpAnyH_done (by kernel_rfl) ?_ _
            refine NoPanic.normal ?_
            have HI9 : Hid (InS w (.slice (some ⟨b, off, none⟩) n cap) u) := i
            clear i hHeld HSx
            go_wp2
            exact ⟨⟨k + 1, by omega, by go_num, HQ, HI9⟩, by simp [intOf]; omega⟩
          · obtain ⟨j, hj0⟩ : ∃ j, k = j + 1 := ⟨k - 1, by omega⟩
            have hj : j < n := by omega
            obtain ⟨y, hy⟩ : ∃ y, y = (l.getD j ln0).1 := ⟨_, rfl⟩
            have HP2 : Hid (∀ u, Below w.heap.size w u → u.cell? ⟨b, off + j * 2, none⟩ = some (.int .i64 y)) := fun u hu => by rw [hy]; exact (HR.out u hu j hj).1
            have hL : leastAt l k = y + 1 := by rw [hy, hj0]; exact leastAt_succ l j
            have HK0 : Hid (0 < k) := by show 0 < k; omega
            have hkj : (j : Int) < (n : Int) := by omega
            have hwj : IntKind.i64.wrap ((k : Int) - 1) = (j : Int) := by rw [IntKind.wrap_i64]; omega
            have HPr : Hid True := trivial
            by_cases s2 : (l.getD k ln0).1 ≤ y
            · have HF : Hid (decide (SndR l) = false) := HN1 (fun h => by have := h.2; omega)
              have s2' : (l.getD k ln0).1 ≤ y := s2
              clear HN1 HS s1 HG hL hy s2 hj0 h0
              obtain ⟨x, hx⟩ : ∃ x, x = (l.getD k ln0).2 := ⟨_, rfl⟩
              obtain ⟨z, hz'⟩ : ∃ z, z = (l.getD k ln0).1 := ⟨_, rfl⟩
              have HR2 : Hid (∀ u, Below w.heap.size w u → u.cell? ⟨b, off + k * 2, none⟩ = some (.int .i64 z) ∧ u.cell? ⟨b, off + k * 2 + 1, none⟩ = some (.string x)) := fun u hu => by rw [hx, hz']; exact HR.out u hu k hlt
              rw [← hx] at c2 h4 hs0
              rw [← hz'] at c1 hs0 s2'
              have hs := fun u => hs0 u
              clear hs0 hx hz'
              have d2 : decide (z ≤ y) = true := decide_eq_true s2'
              go_wp2_with fail
              have HSx : Hid (∀ u, InS w (.slice (some ⟨b, off, none⟩) n cap) u → (u.cell? ⟨w.heap.size, 0, none⟩ = some (.slice (some ⟨b, off, none⟩) n cap) ∧ u.cell? ⟨b, off + k * 2, none⟩ = some (.int .i64 z) ∧ u.cell? ⟨b, off + k * 2 + 1, none⟩ = some (.string x) ∧ u.cell? ⟨b, off + j * 2, none⟩ = some (.int .i64 y))) := fun u hu => ⟨hu.cell, (HR2.out u hu.1).1, (HR2.out u hu.1).2, HP2.out u hu.1⟩
              have i := HU.out
              clear HU c1 c2 x0 HR2 HP2 HPr
              refine wp_region_noPanic ?_
              refine wp_region_held_drew (S := fun u => u.cell? ⟨w.heap.size, 0, none⟩ = some (.slice (some ⟨b, off, none⟩) n cap) ∧ u.cell? ⟨b, off + k * 2, none⟩ = some (.int .i64 z) ∧ u.cell? ⟨b, off + k * 2 + 1, none⟩ = some (.string x) ∧ u.cell? ⟨b, off + j * 2, none⟩ = some (.int .i64 y)) (by kernel_rfl) (HSx.out _ (i.drew)) (fun _ => ?_)
              refine rw.region_w (fun u => InS w (.slice (some ⟨b, off, none⟩) n cap) u) (i.drew) ?_
              clear i
              intro u i
              have hHeld : (u.cell? ⟨w.heap.size, 0, none⟩ = some (.slice (some ⟨b, off, none⟩) n cap) ∧ u.cell? ⟨b, off + k * 2, none⟩ = some (.int .i64 z) ∧ u.cell? ⟨b, off + k * 2 + 1, none⟩ = some (.string x) ∧ u.cell? ⟨b, off + j * 2, none⟩ = some (.int .i64 y)) := HSx.out u i
              refine wpAnyH_take (i := 0) (oi := { dst := some 11, op := Op.fieldAddr 49 (Operand.tmp 1) 0, type := 0, pos := "l07_sync.go:40", after := #[], guard := none }) (v := ?_) rfl (by kernel_rfl) (by kernel_rfl) (by kernel_rfl) (fun _ _ _ h => h) (Or.inl ⟨by rfl, ?_⟩) hHeld ?_
              rotate_left
              · rintro w ⟨z0, z1, z2, z3⟩; go_simp; (try with_reducible rfl)
              try simp only [Act.put, List.setIfInBounds_toArray, List.set_cons_zero, List.set_cons_succ]
              refine wpAnyH_take (i := 1) (oi := { dst := some 12, op := Op.load 47 (Operand.tmp 11), type := 47, pos := "l07_sync.go:40", after := #[{ on := 0, ground := Ground.data }], guard := none }) (v := ?_) rfl (by kernel_rfl) (by kernel_rfl) (by kernel_rfl) (fun _ _ _ h => h) (Or.inl ⟨by rfl, ?_⟩) hHeld ?_
              rotate_left
              · rintro w ⟨z0, z1, z2, z3⟩; go_simp; (try with_reducible rfl)
              try simp only [Act.put, List.setIfInBounds_toArray, List.set_cons_zero, List.set_cons_succ]
              refine wpAnyH_take (i := 2) (oi := { dst := some 13, op := Op.move (Operand.tmp 3), type := 3, pos := "l07_sync.go:40", after := #[], guard := none }) (v := ?_) rfl (by kernel_rfl) (by kernel_rfl) (by kernel_rfl) (fun _ _ _ h => h) (Or.inl ⟨by rfl, ?_⟩) hHeld ?_
              rotate_left
              · rintro w ⟨z0, z1, z2, z3⟩; go_simp; (try with_reducible rfl)
              try simp only [Act.put, List.setIfInBounds_toArray, List.set_cons_zero, List.set_cons_succ]
              refine wpAnyH_take (i := 3) (oi := { dst := some 14, op := Op.indexAddr 47 (Operand.tmp 12) (Operand.tmp 13), type := 0, pos := "l07_sync.go:40", after := #[{ on := 1, ground := Ground.data }, { on := 2, ground := Ground.data }], guard := none }) (v := ?_) rfl (by kernel_rfl) (by kernel_rfl) (by kernel_rfl) (fun _ _ _ h => h) (Or.inl ⟨by rfl, ?_⟩) hHeld ?_
              rotate_left
              · rintro w ⟨z0, z1, z2, z3⟩; go_simp; (try with_reducible rfl)
              try simp only [Act.put, List.setIfInBounds_toArray, List.set_cons_zero, List.set_cons_succ]
              refine wpAnyH_take (i := 4) (oi := { dst := some 15, op := Op.load 28 (Operand.tmp 14), type := 28, pos := "l07_sync.go:40", after := #[{ on := 3, ground := Ground.data }], guard := none }) (v := ?_) rfl (by kernel_rfl) (by kernel_rfl) (by kernel_rfl) (fun _ _ _ h => h) (Or.inl ⟨by rfl, ?_⟩) hHeld ?_
              rotate_left
              · rintro w ⟨z0, z1, z2, z3⟩; go_simp; (try with_reducible rfl)
              try simp only [Act.put, List.setIfInBounds_toArray, List.set_cons_zero, List.set_cons_succ]
              refine wpAnyH_ready (rs := [5]) (by kernel_rfl) (by simp) ?_
              refine AllReadyH.cons rfl (fun K hK => ?_) AllReadyH.nil
              go_simp
              go_at_call 35
              refine (hs u).mono ?_
              rintro r7 w7 ⟨rfl, hb⟩
              go_wp2_with fail
              refine hK.out _ _ (HSx.out _ (i.up hb)) (fun _ => ?_)
              clear hK K hHeld
              try simp only [Act.put, List.setIfInBounds_toArray, List.set_cons_zero, List.set_cons_succ]
              refine rw.region_w (fun u => InS w (.slice (some ⟨b, off, none⟩) n cap) u) (i.up hb) ?_
              clear i hb
              intro u i
              have hHeld : (u.cell? ⟨w.heap.size, 0, none⟩ = some (.slice (some ⟨b, off, none⟩) n cap) ∧ u.cell? ⟨b, off + k * 2, none⟩ = some (.int .i64 z) ∧ u.cell? ⟨b, off + k * 2 + 1, none⟩ = some (.string x) ∧ u.cell? ⟨b, off + j * 2, none⟩ = some (.int .i64 y)) := HSx.out u i
              refine wpAnyH_take (i := 6) (oi := { dst := some 17, op := Op.unOp UnOp.not 4 (Operand.tmp 16), type := 4, pos := "l07_sync.go:40", after := #[{ on := 5, ground := Ground.data }], guard := none }) (v := ?_) rfl (by kernel_rfl) (by kernel_rfl) (by kernel_rfl) (fun _ _ _ h => h) (Or.inl ⟨by rfl, ?_⟩) hHeld ?_
              rotate_left
              · rintro w ⟨z0, z1, z2, z3⟩; go_simp; (try with_reducible rfl)
              try simp only [Act.put, List.setIfInBounds_toArray, List.set_cons_zero, List.set_cons_succ]
              refine wpAnyH_take (i := 7) (oi := { dst := some 18, op := Op.move (Operand.tmp 17), type := 4, pos := "l07_sync.go:40", after := #[{ on := 6, ground := Ground.data }, { on := 5, ground := Ground.chain }], guard := none }) (v := ?_) rfl (by kernel_rfl) (by kernel_rfl) (by kernel_rfl) (fun _ _ _ h => h) (Or.inl ⟨by rfl, ?_⟩) hHeld ?_
              rotate_left
              · rintro w ⟨z0, z1, z2, z3⟩; go_simp; (try with_reducible rfl)
              try simp only [Act.put, List.setIfInBounds_toArray, List.set_cons_zero, List.set_cons_succ]
              refine wpAnyH_take (i := 8) (oi := { dst := some 19, op := Op.move (Operand.tmp 3), type := 3, pos := "l07_sync.go:40", after := #[{ on := 7, ground := Ground.guard }], guard := some (7, false) }) (v := ?_) rfl (by kernel_rfl) (by kernel_rfl) (by kernel_rfl) (fun _ _ _ h => h) (Or.inl ⟨by rfl, ?_⟩) hHeld ?_
              rotate_left
              · rintro w ⟨z0, z1, z2, z3⟩; go_simp; (try with_reducible rfl)
              try simp only [Act.put, List.setIfInBounds_toArray, List.set_cons_zero, List.set_cons_succ]
              refine wpAnyH_take (i := 9) (oi := { dst := some 20, op := Op.binOp BinOp.gtr 3 (Operand.tmp 19) (Operand.const (Value.int IntKind.i64 0)) 3, type := 4, pos := "l07_sync.go:40", after := #[{ on := 8, ground := Ground.data }, { on := 7, ground := Ground.guard }], guard := some (7, false) }) (v := .bool true) rfl (by kernel_rfl) (by kernel_rfl) (by kernel_rfl) (fun _ _ _ h => h) (Or.inl ⟨by rfl, ?_⟩) hHeld ?_
              · rintro w ⟨z0, z1, z2, z3⟩; go_simp; exact HK0.out
              try simp only [Act.put, List.setIfInBounds_toArray, List.set_cons_zero, List.set_cons_succ]
              refine wpAnyH_take (i := 10) (oi := { dst := some 21, op := Op.move (Operand.tmp 20), type := 4, pos := "l07_sync.go:40", after := #[{ on := 9, ground := Ground.data }, { on := 7, ground := Ground.chain }, { on := 7, ground := Ground.guard }], guard := some (7, false) }) (v := .bool true) rfl (by kernel_rfl) (by kernel_rfl) (by kernel_rfl) (fun _ _ _ h => h) (Or.inl ⟨by rfl, ?_⟩) hHeld ?_
              · rintro w ⟨z0, z1, z2, z3⟩; go_simp; (try with_reducible rfl)
              try simp only [Act.put, List.setIfInBounds_toArray, List.set_cons_zero, List.set_cons_succ]
              refine wpAnyH_take (i := 11) (oi := { dst := some 22, op := Op.fieldAddr 49 (Operand.tmp 1) 0, type := 0, pos := "l07_sync.go:40", after := #[{ on := 10, ground := Ground.guard }], guard := some (10, true) }) (v := ?_) rfl (by kernel_rfl) (by kernel_rfl) (by kernel_rfl) (fun _ _ _ h => h) (Or.inl ⟨by rfl, ?_⟩) hHeld ?_
              rotate_left
              · rintro w ⟨z0, z1, z2, z3⟩; go_simp; (try with_reducible rfl)
              try simp only [Act.put, List.setIfInBounds_toArray, List.set_cons_zero, List.set_cons_succ]
              refine wpAnyH_take (i := 12) (oi := { dst := some 23, op := Op.load 47 (Operand.tmp 22), type := 47, pos := "l07_sync.go:40", after := #[{ on := 11, ground := Ground.data }, { on := 10, ground := Ground.guard }], guard := some (10, true) }) (v := ?_) rfl (by kernel_rfl) (by kernel_rfl) (by kernel_rfl) (fun _ _ _ h => h) (Or.inl ⟨by rfl, ?_⟩) hHeld ?_
              rotate_left
              · rintro w ⟨z0, z1, z2, z3⟩; go_simp; (try with_reducible rfl)
              try simp only [Act.put, List.setIfInBounds_toArray, List.set_cons_zero, List.set_cons_succ]
              refine wpAnyH_take (i := 13) (oi := { dst := some 24, op := Op.move (Operand.tmp 3), type := 3, pos := "l07_sync.go:40", after := #[{ on := 10, ground := Ground.guard }], guard := some (10, true) }) (v := ?_) rfl (by kernel_rfl) (by kernel_rfl) (by kernel_rfl) (fun _ _ _ h => h) (Or.inl ⟨by rfl, ?_⟩) hHeld ?_
              rotate_left
              · rintro w ⟨z0, z1, z2, z3⟩; go_simp; (try with_reducible rfl)
              try simp only [Act.put, List.setIfInBounds_toArray, List.set_cons_zero, List.set_cons_succ]
              refine wpAnyH_take (i := 14) (oi := { dst := some 25, op := Op.binOp BinOp.sub 3 (Operand.tmp 24) (Operand.const (Value.int IntKind.i64 1)) 3, type := 3, pos := "l07_sync.go:40", after := #[{ on := 13, ground := Ground.data }, { on := 10, ground := Ground.guard }], guard := some (10, true) }) (v := .int .i64 (j : Int)) rfl (by kernel_rfl) (by kernel_rfl) (by kernel_rfl) (fun _ _ _ h => h) (Or.inl ⟨by rfl, ?_⟩) hHeld ?_
              · rintro w ⟨z0, z1, z2, z3⟩; go_simp; (try with_reducible rfl)
              try simp only [Act.put, List.setIfInBounds_toArray, List.set_cons_zero, List.set_cons_succ]
              refine wpAnyH_take (i := 15) (oi := { dst := some 26, op := Op.indexAddr 47 (Operand.tmp 23) (Operand.tmp 25), type := 0, pos := "l07_sync.go:40", after := #[{ on := 12, ground := Ground.data }, { on := 14, ground := Ground.data }, { on := 10, ground := Ground.guard }], guard := some (10, true) }) (v := ?_) rfl (by kernel_rfl) (by kernel_rfl) (by kernel_rfl) (fun _ _ _ h => h) (Or.inl ⟨by rfl, ?_⟩) hHeld ?_
              rotate_left
              · rintro w ⟨z0, z1, z2, z3⟩; go_simp; (try with_reducible rfl)
              try simp only [Act.put, List.setIfInBounds_toArray, List.set_cons_zero, List.set_cons_succ]
              refine wpAnyH_take (i := 16) (oi := { dst := some 27, op := Op.fieldAddr 28 (Operand.tmp 26) 0, type := 0, pos := "l07_sync.go:40", after := #[{ on := 15, ground := Ground.data }, { on := 10, ground := Ground.guard }], guard := some (10, true) }) (v := ?_) rfl (by kernel_rfl) (by kernel_rfl) (by kernel_rfl) (fun _ _ _ h => h) (Or.inl ⟨by rfl, ?_⟩) hHeld ?_
              rotate_left
              · rintro w ⟨z0, z1, z2, z3⟩; go_simp; (try with_reducible rfl)
              try simp only [Act.put, List.setIfInBounds_toArray, List.set_cons_zero, List.set_cons_succ]
              refine wpAnyH_take (i := 17) (oi := { dst := some 28, op := Op.load 2 (Operand.tmp 27), type := 2, pos := "l07_sync.go:40", after := #[{ on := 16, ground := Ground.data }, { on := 10, ground := Ground.guard }], guard := some (10, true) }) (v := ?_) rfl (by kernel_rfl) (by kernel_rfl) (by kernel_rfl) (fun _ _ _ h => h) (Or.inl ⟨by rfl, ?_⟩) hHeld ?_
              rotate_left
              · rintro w ⟨z0, z1, z2, z3⟩; go_simp; (try with_reducible rfl)
              try simp only [Act.put, List.setIfInBounds_toArray, List.set_cons_zero, List.set_cons_succ]
              refine wpAnyH_take (i := 18) (oi := { dst := some 29, op := Op.fieldAddr 49 (Operand.tmp 1) 0, type := 0, pos := "l07_sync.go:40", after := #[{ on := 10, ground := Ground.guard }], guard := some (10, true) }) (v := ?_) rfl (by kernel_rfl) (by kernel_rfl) (by kernel_rfl) (fun _ _ _ h => h) (Or.inl ⟨by rfl, ?_⟩) hHeld ?_
              rotate_left
              · rintro w ⟨z0, z1, z2, z3⟩; go_simp; (try with_reducible rfl)
              try simp only [Act.put, List.setIfInBounds_toArray, List.set_cons_zero, List.set_cons_succ]
              refine wpAnyH_take (i := 19) (oi := { dst := some 30, op := Op.load 47 (Operand.tmp 29), type := 47, pos := "l07_sync.go:40", after := #[{ on := 18, ground := Ground.data }, { on := 10, ground := Ground.guard }], guard := some (10, true) }) (v := ?_) rfl (by kernel_rfl) (by kernel_rfl) (by kernel_rfl) (fun _ _ _ h => h) (Or.inl ⟨by rfl, ?_⟩) hHeld ?_
              rotate_left
              · rintro w ⟨z0, z1, z2, z3⟩; go_simp; (try with_reducible rfl)
              try simp only [Act.put, List.setIfInBounds_toArray, List.set_cons_zero, List.set_cons_succ]
              refine wpAnyH_take (i := 20) (oi := { dst := some 31, op := Op.move (Operand.tmp 3), type := 3, pos := "l07_sync.go:40", after := #[{ on := 10, ground := Ground.guard }], guard := some (10, true) }) (v := ?_) rfl (by kernel_rfl) (by kernel_rfl) (by kernel_rfl) (fun _ _ _ h => h) (Or.inl ⟨by rfl, ?_⟩) hHeld ?_
              rotate_left
              · rintro w ⟨z0, z1, z2, z3⟩; go_simp; (try with_reducible rfl)
              try simp only [Act.put, List.setIfInBounds_toArray, List.set_cons_zero, List.set_cons_succ]
              refine wpAnyH_take (i := 21) (oi := { dst := some 32, op := Op.indexAddr 47 (Operand.tmp 30) (Operand.tmp 31), type := 0, pos := "l07_sync.go:40", after := #[{ on := 19, ground := Ground.data }, { on := 20, ground := Ground.data }, { on := 10, ground := Ground.guard }], guard := some (10, true) }) (v := ?_) rfl (by kernel_rfl) (by kernel_rfl) (by kernel_rfl) (fun _ _ _ h => h) (Or.inl ⟨by rfl, ?_⟩) hHeld ?_
              rotate_left
              · rintro w ⟨z0, z1, z2, z3⟩; go_simp; (try with_reducible rfl)
              try simp only [Act.put, List.setIfInBounds_toArray, List.set_cons_zero, List.set_cons_succ]
              refine wpAnyH_take (i := 22) (oi := { dst := some 33, op := Op.fieldAddr 28 (Operand.tmp 32) 0, type := 0, pos := "l07_sync.go:40", after := #[{ on := 21, ground := Ground.data }, { on := 10, ground := Ground.guard }], guard := some (10, true) }) (v := ?_) rfl (by kernel_rfl) (by kernel_rfl) (by kernel_rfl) (fun _ _ _ h => h) (Or.inl ⟨by rfl, ?_⟩) hHeld ?_
              rotate_left
              · rintro w ⟨z0, z1, z2, z3⟩; go_simp; (try with_reducible rfl)
              try simp only [Act.put, List.setIfInBounds_toArray, List.set_cons_zero, List.set_cons_succ]
              refine wpAnyH_take (i := 23) (oi := { dst := some 34, op := Op.load 2 (Operand.tmp 33), type := 2, pos := "l07_sync.go:40", after := #[{ on := 22, ground := Ground.data }, { on := 10, ground := Ground.guard }], guard := some (10, true) }) (v := ?_) rfl (by kernel_rfl) (by kernel_rfl) (by kernel_rfl) (fun _ _ _ h => h) (Or.inl ⟨by rfl, ?_⟩) hHeld ?_
              rotate_left
              · rintro w ⟨z0, z1, z2, z3⟩; go_simp; (try with_reducible rfl)
              try simp only [Act.put, List.setIfInBounds_toArray, List.set_cons_zero, List.set_cons_succ]
              refine wpAnyH_take (i := 24) (oi := { dst := some 35, op := Op.binOp BinOp.geq 2 (Operand.tmp 28) (Operand.tmp 34) 2, type := 4, pos := "l07_sync.go:40", after := #[{ on := 17, ground := Ground.data }, { on := 23, ground := Ground.data }, { on := 10, ground := Ground.guard }], guard := some (10, true) }) (v := .bool true) rfl (by kernel_rfl) (by kernel_rfl) (by kernel_rfl) (fun _ _ _ h => h) (Or.inl ⟨by rfl, ?_⟩) hHeld ?_
              · rintro w ⟨z0, z1, z2, z3⟩; go_simp; (try with_reducible rfl)
              try simp only [Act.put, List.setIfInBounds_toArray, List.set_cons_zero, List.set_cons_succ]
              refine wpAnyH_take (i := 25) (oi := { dst := some 36, op := Op.pick (Operand.tmp 21) (Operand.tmp 35) (Operand.const (Value.bool false)), type := 4, pos := "l07_sync.go:40", after := #[{ on := 10, ground := Ground.data }, { on := 24, ground := Ground.data }, { on := 7, ground := Ground.guard }], guard := some (7, false) }) (v := .bool true) rfl (by kernel_rfl) (by kernel_rfl) (by kernel_rfl) (fun _ _ _ h => h) (Or.inl ⟨by rfl, ?_⟩) hHeld ?_
              · rintro w ⟨z0, z1, z2, z3⟩; go_simp; (try with_reducible rfl)
              try simp only [Act.put, List.setIfInBounds_toArray, List.set_cons_zero, List.set_cons_succ]
              refine wpAnyH_take (i := 26) (oi := { dst := some 37, op := Op.pick (Operand.tmp 18) (Operand.const (Value.bool true)) (Operand.tmp 36), type := 4, pos := "l07_sync.go:40", after := #[{ on := 7, ground := Ground.data }, { on := 25, ground := Ground.data }], guard := none }) (v := .bool true) rfl (by kernel_rfl) (by kernel_rfl) (by kernel_rfl) (fun _ _ _ h => h) (Or.inl ⟨by rfl, ?_⟩) hHeld ?_
              · rintro w ⟨z0, z1, z2, z3⟩; go_simp; (try with_reducible rfl)
              try simp only [Act.put, List.setIfInBounds_toArray, List.set_cons_zero, List.set_cons_succ]
              refine wpAnyH_done (by kernel_rfl) ?_ _
              refine NoPanic.normal ?_
              have HB : Hid (Below w.heap.size w u) := i.1
              clear i hHeld HSx
              go_wp2
              go_ret
              exact ⟨ret_b HF.out.symm, HB.out⟩
            · have HQ : Hid (RightTo l (k + 1)) := HS.out s1 (by omega)
              have s2' : ¬ (l.getD k ln0).1 ≤ y := s2
              clear HN1 HS s1 HG hL hy s2 hj0 h0
              obtain ⟨x, hx⟩ : ∃ x, x = (l.getD k ln0).2 := ⟨_, rfl⟩
              obtain ⟨z, hz'⟩ : ∃ z, z = (l.getD k ln0).1 := ⟨_, rfl⟩
              have HR2 : Hid (∀ u, Below w.heap.size w u → u.cell? ⟨b, off + k * 2, none⟩ = some (.int .i64 z) ∧ u.cell? ⟨b, off + k * 2 + 1, none⟩ = some (.string x)) := fun u hu => by rw [hx, hz']; exact HR.out u hu k hlt
              rw [← hx] at c2 h4 hs0
              rw [← hz'] at c1 hs0 s2'
              have hs := fun u => hs0 u
              clear hs0 hx hz'
              have d2 : decide (z ≤ y) = false := decide_eq_false s2'
              go_wp2_with fail
              have HSx : Hid (∀ u, InS w (.slice (some ⟨b, off, none⟩) n cap) u → (u.cell? ⟨w.heap.size, 0, none⟩ = some (.slice (some ⟨b, off, none⟩) n cap) ∧ u.cell? ⟨b, off + k * 2, none⟩ = some (.int .i64 z) ∧ u.cell? ⟨b, off + k * 2 + 1, none⟩ = some (.string x) ∧ u.cell? ⟨b, off + j * 2, none⟩ = some (.int .i64 y))) := fun u hu => ⟨hu.cell, (HR2.out u hu.1).1, (HR2.out u hu.1).2, HP2.out u hu.1⟩
              have i := HU.out
              clear HU c1 c2 x0 HR2 HP2 HPr
              refine wp_region_noPanic ?_
              refine wp_region_held_drew (S := fun u => u.cell? ⟨w.heap.size, 0, none⟩ = some (.slice (some ⟨b, off, none⟩) n cap) ∧ u.cell? ⟨b, off + k * 2, none⟩ = some (.int .i64 z) ∧ u.cell? ⟨b, off + k * 2 + 1, none⟩ = some (.string x) ∧ u.cell? ⟨b, off + j * 2, none⟩ = some (.int .i64 y)) (by kernel_rfl) (HSx.out _ (i.drew)) (fun _ => ?_)
              refine rw.region_w (fun u => InS w (.slice (some ⟨b, off, none⟩) n cap) u) (i.drew) ?_
              clear i
              intro u i
              have hHeld : (u.cell? ⟨w.heap.size, 0, none⟩ = some (.slice (some ⟨b, off, none⟩) n cap) ∧ u.cell? ⟨b, off + k * 2, none⟩ = some (.int .i64 z) ∧ u.cell? ⟨b, off + k * 2 + 1, none⟩ = some (.string x) ∧ u.cell? ⟨b, off + j * 2, none⟩ = some (.int .i64 y)) := HSx.out u i
              refine wpAnyH_take (i := 0) (oi := { dst := some 11, op := Op.fieldAddr 49 (Operand.tmp 1) 0, type := 0, pos := "l07_sync.go:40", after := #[], guard := none }) (v := ?_) rfl (by kernel_rfl) (by kernel_rfl) (by kernel_rfl) (fun _ _ _ h => h) (Or.inl ⟨by rfl, ?_⟩) hHeld ?_
              rotate_left
              · rintro w ⟨z0, z1, z2, z3⟩; go_simp; (try with_reducible rfl)
              try simp only [Act.put, List.setIfInBounds_toArray, List.set_cons_zero, List.set_cons_succ]
              refine wpAnyH_take (i := 1) (oi := { dst := some 12, op := Op.load 47 (Operand.tmp 11), type := 47, pos := "l07_sync.go:40", after := #[{ on := 0, ground := Ground.data }], guard := none }) (v := ?_) rfl (by kernel_rfl) (by kernel_rfl) (by kernel_rfl) (fun _ _ _ h => h) (Or.inl ⟨by rfl, ?_⟩) hHeld ?_
              rotate_left
              · rintro w ⟨z0, z1, z2, z3⟩; go_simp; (try with_reducible rfl)
              try simp only [Act.put, List.setIfInBounds_toArray, List.set_cons_zero, List.set_cons_succ]
              refine wpAnyH_take (i := 2) (oi := { dst := some 13, op := Op.move (Operand.tmp 3), type := 3, pos := "l07_sync.go:40", after := #[], guard := none }) (v := ?_) rfl (by kernel_rfl) (by kernel_rfl) (by kernel_rfl) (fun _ _ _ h => h) (Or.inl ⟨by rfl, ?_⟩) hHeld ?_
              rotate_left
              · rintro w ⟨z0, z1, z2, z3⟩; go_simp; (try with_reducible rfl)
              try simp only [Act.put, List.setIfInBounds_toArray, List.set_cons_zero, List.set_cons_succ]
              refine wpAnyH_take (i := 3) (oi := { dst := some 14, op := Op.indexAddr 47 (Operand.tmp 12) (Operand.tmp 13), type := 0, pos := "l07_sync.go:40", after := #[{ on := 1, ground := Ground.data }, { on := 2, ground := Ground.data }], guard := none }) (v := ?_) rfl (by kernel_rfl) (by kernel_rfl) (by kernel_rfl) (fun _ _ _ h => h) (Or.inl ⟨by rfl, ?_⟩) hHeld ?_
              rotate_left
              · rintro w ⟨z0, z1, z2, z3⟩; go_simp; (try with_reducible rfl)
              try simp only [Act.put, List.setIfInBounds_toArray, List.set_cons_zero, List.set_cons_succ]
              refine wpAnyH_take (i := 4) (oi := { dst := some 15, op := Op.load 28 (Operand.tmp 14), type := 28, pos := "l07_sync.go:40", after := #[{ on := 3, ground := Ground.data }], guard := none }) (v := ?_) rfl (by kernel_rfl) (by kernel_rfl) (by kernel_rfl) (fun _ _ _ h => h) (Or.inl ⟨by rfl, ?_⟩) hHeld ?_
              rotate_left
              · rintro w ⟨z0, z1, z2, z3⟩; go_simp; (try with_reducible rfl)
              try simp only [Act.put, List.setIfInBounds_toArray, List.set_cons_zero, List.set_cons_succ]
              refine wpAnyH_ready (rs := [5]) (by kernel_rfl) (by simp) ?_
              refine AllReadyH.cons rfl (fun K hK => ?_) AllReadyH.nil
              go_simp
              go_at_call 35
              refine (hs u).mono ?_
              rintro r7 w7 ⟨rfl, hb⟩
              go_wp2_with fail
              refine hK.out _ _ (HSx.out _ (i.up hb)) (fun _ => ?_)
              clear hK K hHeld
              try simp only [Act.put, List.setIfInBounds_toArray, List.set_cons_zero, List.set_cons_succ]
              refine rw.region_w (fun u => InS w (.slice (some ⟨b, off, none⟩) n cap) u) (i.up hb) ?_
              clear i hb
              intro u i
              have hHeld : (u.cell? ⟨w.heap.size, 0, none⟩ = some (.slice (some ⟨b, off, none⟩) n cap) ∧ u.cell? ⟨b, off + k * 2, none⟩ = some (.int .i64 z) ∧ u.cell? ⟨b, off + k * 2 + 1, none⟩ = some (.string x) ∧ u.cell? ⟨b, off + j * 2, none⟩ = some (.int .i64 y)) := HSx.out u i
              refine wpAnyH_take (i := 6) (oi := { dst := some 17, op := Op.unOp UnOp.not 4 (Operand.tmp 16), type := 4, pos := "l07_sync.go:40", after := #[{ on := 5, ground := Ground.data }], guard := none }) (v := ?_) rfl (by kernel_rfl) (by kernel_rfl) (by kernel_rfl) (fun _ _ _ h => h) (Or.inl ⟨by rfl, ?_⟩) hHeld ?_
              rotate_left
              · rintro w ⟨z0, z1, z2, z3⟩; go_simp; (try with_reducible rfl)
              try simp only [Act.put, List.setIfInBounds_toArray, List.set_cons_zero, List.set_cons_succ]
              refine wpAnyH_take (i := 7) (oi := { dst := some 18, op := Op.move (Operand.tmp 17), type := 4, pos := "l07_sync.go:40", after := #[{ on := 6, ground := Ground.data }, { on := 5, ground := Ground.chain }], guard := none }) (v := ?_) rfl (by kernel_rfl) (by kernel_rfl) (by kernel_rfl) (fun _ _ _ h => h) (Or.inl ⟨by rfl, ?_⟩) hHeld ?_
              rotate_left
              · rintro w ⟨z0, z1, z2, z3⟩; go_simp; (try with_reducible rfl)
              try simp only [Act.put, List.setIfInBounds_toArray, List.set_cons_zero, List.set_cons_succ]
              refine wpAnyH_take (i := 8) (oi := { dst := some 19, op := Op.move (Operand.tmp 3), type := 3, pos := "l07_sync.go:40", after := #[{ on := 7, ground := Ground.guard }], guard := some (7, false) }) (v := ?_) rfl (by kernel_rfl) (by kernel_rfl) (by kernel_rfl) (fun _ _ _ h => h) (Or.inl ⟨by rfl, ?_⟩) hHeld ?_
              rotate_left
              · rintro w ⟨z0, z1, z2, z3⟩; go_simp; (try with_reducible rfl)
              try simp only [Act.put, List.setIfInBounds_toArray, List.set_cons_zero, List.set_cons_succ]
              refine wpAnyH_take (i := 9) (oi := { dst := some 20, op := Op.binOp BinOp.gtr 3 (Operand.tmp 19) (Operand.const (Value.int IntKind.i64 0)) 3, type := 4, pos := "l07_sync.go:40", after := #[{ on := 8, ground := Ground.data }, { on := 7, ground := Ground.guard }], guard := some (7, false) }) (v := .bool true) rfl (by kernel_rfl) (by kernel_rfl) (by kernel_rfl) (fun _ _ _ h => h) (Or.inl ⟨by rfl, ?_⟩) hHeld ?_
              · rintro w ⟨z0, z1, z2, z3⟩; go_simp; exact HK0.out
              try simp only [Act.put, List.setIfInBounds_toArray, List.set_cons_zero, List.set_cons_succ]
              refine wpAnyH_take (i := 10) (oi := { dst := some 21, op := Op.move (Operand.tmp 20), type := 4, pos := "l07_sync.go:40", after := #[{ on := 9, ground := Ground.data }, { on := 7, ground := Ground.chain }, { on := 7, ground := Ground.guard }], guard := some (7, false) }) (v := .bool true) rfl (by kernel_rfl) (by kernel_rfl) (by kernel_rfl) (fun _ _ _ h => h) (Or.inl ⟨by rfl, ?_⟩) hHeld ?_
              · rintro w ⟨z0, z1, z2, z3⟩; go_simp; (try with_reducible rfl)
              try simp only [Act.put, List.setIfInBounds_toArray, List.set_cons_zero, List.set_cons_succ]
              refine wpAnyH_take (i := 11) (oi := { dst := some 22, op := Op.fieldAddr 49 (Operand.tmp 1) 0, type := 0, pos := "l07_sync.go:40", after := #[{ on := 10, ground := Ground.guard }], guard := some (10, true) }) (v := ?_) rfl (by kernel_rfl) (by kernel_rfl) (by kernel_rfl) (fun _ _ _ h => h) (Or.inl ⟨by rfl, ?_⟩) hHeld ?_
              rotate_left
              · rintro w ⟨z0, z1, z2, z3⟩; go_simp; (try with_reducible rfl)
              try simp only [Act.put, List.setIfInBounds_toArray, List.set_cons_zero, List.set_cons_succ]
              refine wpAnyH_take (i := 12) (oi := { dst := some 23, op := Op.load 47 (Operand.tmp 22), type := 47, pos := "l07_sync.go:40", after := #[{ on := 11, ground := Ground.data }, { on := 10, ground := Ground.guard }], guard := some (10, true) }) (v := ?_) rfl (by kernel_rfl) (by kernel_rfl) (by kernel_rfl) (fun _ _ _ h => h) (Or.inl ⟨by rfl, ?_⟩) hHeld ?_
              rotate_left
              · rintro w ⟨z0, z1, z2, z3⟩; go_simp; (try with_reducible rfl)
              try simp only [Act.put, List.setIfInBounds_toArray, List.set_cons_zero, List.set_cons_succ]
              refine wpAnyH_take (i := 13) (oi := { dst := some 24, op := Op.move (Operand.tmp 3), type := 3, pos := "l07_sync.go:40", after := #[{ on := 10, ground := Ground.guard }], guard := some (10, true) }) (v := ?_) rfl (by kernel_rfl) (by kernel_rfl) (by kernel_rfl) (fun _ _ _ h => h) (Or.inl ⟨by rfl, ?_⟩) hHeld ?_
              rotate_left
              · rintro w ⟨z0, z1, z2, z3⟩; go_simp; (try with_reducible rfl)
              try simp only [Act.put, List.setIfInBounds_toArray, List.set_cons_zero, List.set_cons_succ]
              refine wpAnyH_take (i := 14) (oi := { dst := some 25, op := Op.binOp BinOp.sub 3 (Operand.tmp 24) (Operand.const (Value.int IntKind.i64 1)) 3, type := 3, pos := "l07_sync.go:40", after := #[{ on := 13, ground := Ground.data }, { on := 10, ground := Ground.guard }], guard := some (10, true) }) (v := .int .i64 (j : Int)) rfl (by kernel_rfl) (by kernel_rfl) (by kernel_rfl) (fun _ _ _ h => h) (Or.inl ⟨by rfl, ?_⟩) hHeld ?_
              · rintro w ⟨z0, z1, z2, z3⟩; go_simp; (try with_reducible rfl)
              try simp only [Act.put, List.setIfInBounds_toArray, List.set_cons_zero, List.set_cons_succ]
              refine wpAnyH_take (i := 15) (oi := { dst := some 26, op := Op.indexAddr 47 (Operand.tmp 23) (Operand.tmp 25), type := 0, pos := "l07_sync.go:40", after := #[{ on := 12, ground := Ground.data }, { on := 14, ground := Ground.data }, { on := 10, ground := Ground.guard }], guard := some (10, true) }) (v := ?_) rfl (by kernel_rfl) (by kernel_rfl) (by kernel_rfl) (fun _ _ _ h => h) (Or.inl ⟨by rfl, ?_⟩) hHeld ?_
              rotate_left
              · rintro w ⟨z0, z1, z2, z3⟩; go_simp; (try with_reducible rfl)
              try simp only [Act.put, List.setIfInBounds_toArray, List.set_cons_zero, List.set_cons_succ]
              refine wpAnyH_take (i := 16) (oi := { dst := some 27, op := Op.fieldAddr 28 (Operand.tmp 26) 0, type := 0, pos := "l07_sync.go:40", after := #[{ on := 15, ground := Ground.data }, { on := 10, ground := Ground.guard }], guard := some (10, true) }) (v := ?_) rfl (by kernel_rfl) (by kernel_rfl) (by kernel_rfl) (fun _ _ _ h => h) (Or.inl ⟨by rfl, ?_⟩) hHeld ?_
              rotate_left
              · rintro w ⟨z0, z1, z2, z3⟩; go_simp; (try with_reducible rfl)
              try simp only [Act.put, List.setIfInBounds_toArray, List.set_cons_zero, List.set_cons_succ]
              refine wpAnyH_take (i := 17) (oi := { dst := some 28, op := Op.load 2 (Operand.tmp 27), type := 2, pos := "l07_sync.go:40", after := #[{ on := 16, ground := Ground.data }, { on := 10, ground := Ground.guard }], guard := some (10, true) }) (v := ?_) rfl (by kernel_rfl) (by kernel_rfl) (by kernel_rfl) (fun _ _ _ h => h) (Or.inl ⟨by rfl, ?_⟩) hHeld ?_
              rotate_left
              · rintro w ⟨z0, z1, z2, z3⟩; go_simp; (try with_reducible rfl)
              try simp only [Act.put, List.setIfInBounds_toArray, List.set_cons_zero, List.set_cons_succ]
              refine wpAnyH_take (i := 18) (oi := { dst := some 29, op := Op.fieldAddr 49 (Operand.tmp 1) 0, type := 0, pos := "l07_sync.go:40", after := #[{ on := 10, ground := Ground.guard }], guard := some (10, true) }) (v := ?_) rfl (by kernel_rfl) (by kernel_rfl) (by kernel_rfl) (fun _ _ _ h => h) (Or.inl ⟨by rfl, ?_⟩) hHeld ?_
              rotate_left
              · rintro w ⟨z0, z1, z2, z3⟩; go_simp; (try with_reducible rfl)
              try simp only [Act.put, List.setIfInBounds_toArray, List.set_cons_zero, List.set_cons_succ]
              refine wpAnyH_take (i := 19) (oi := { dst := some 30, op := Op.load 47 (Operand.tmp 29), type := 47, pos := "l07_sync.go:40", after := #[{ on := 18, ground := Ground.data }, { on := 10, ground := Ground.guard }], guard := some (10, true) }) (v := ?_) rfl (by kernel_rfl) (by kernel_rfl) (by kernel_rfl) (fun _ _ _ h => h) (Or.inl ⟨by rfl, ?_⟩) hHeld ?_
              rotate_left
              · rintro w ⟨z0, z1, z2, z3⟩; go_simp; (try with_reducible rfl)
              try simp only [Act.put, List.setIfInBounds_toArray, List.set_cons_zero, List.set_cons_succ]
              refine wpAnyH_take (i := 20) (oi := { dst := some 31, op := Op.move (Operand.tmp 3), type := 3, pos := "l07_sync.go:40", after := #[{ on := 10, ground := Ground.guard }], guard := some (10, true) }) (v := ?_) rfl (by kernel_rfl) (by kernel_rfl) (by kernel_rfl) (fun _ _ _ h => h) (Or.inl ⟨by rfl, ?_⟩) hHeld ?_
              rotate_left
              · rintro w ⟨z0, z1, z2, z3⟩; go_simp; (try with_reducible rfl)
              try simp only [Act.put, List.setIfInBounds_toArray, List.set_cons_zero, List.set_cons_succ]
              refine wpAnyH_take (i := 21) (oi := { dst := some 32, op := Op.indexAddr 47 (Operand.tmp 30) (Operand.tmp 31), type := 0, pos := "l07_sync.go:40", after := #[{ on := 19, ground := Ground.data }, { on := 20, ground := Ground.data }, { on := 10, ground := Ground.guard }], guard := some (10, true) }) (v := ?_) rfl (by kernel_rfl) (by kernel_rfl) (by kernel_rfl) (fun _ _ _ h => h) (Or.inl ⟨by rfl, ?_⟩) hHeld ?_
              rotate_left
              · rintro w ⟨z0, z1, z2, z3⟩; go_simp; (try with_reducible rfl)
              try simp only [Act.put, List.setIfInBounds_toArray, List.set_cons_zero, List.set_cons_succ]
              refine wpAnyH_take (i := 22) (oi := { dst := some 33, op := Op.fieldAddr 28 (Operand.tmp 32) 0, type := 0, pos := "l07_sync.go:40", after := #[{ on := 21, ground := Ground.data }, { on := 10, ground := Ground.guard }], guard := some (10, true) }) (v := ?_) rfl (by kernel_rfl) (by kernel_rfl) (by kernel_rfl) (fun _ _ _ h => h) (Or.inl ⟨by rfl, ?_⟩) hHeld ?_
              rotate_left
              · rintro w ⟨z0, z1, z2, z3⟩; go_simp; (try with_reducible rfl)
              try simp only [Act.put, List.setIfInBounds_toArray, List.set_cons_zero, List.set_cons_succ]
              refine wpAnyH_take (i := 23) (oi := { dst := some 34, op := Op.load 2 (Operand.tmp 33), type := 2, pos := "l07_sync.go:40", after := #[{ on := 22, ground := Ground.data }, { on := 10, ground := Ground.guard }], guard := some (10, true) }) (v := ?_) rfl (by kernel_rfl) (by kernel_rfl) (by kernel_rfl) (fun _ _ _ h => h) (Or.inl ⟨by rfl, ?_⟩) hHeld ?_
              rotate_left
              · rintro w ⟨z0, z1, z2, z3⟩; go_simp; (try with_reducible rfl)
              try simp only [Act.put, List.setIfInBounds_toArray, List.set_cons_zero, List.set_cons_succ]
              refine wpAnyH_take (i := 24) (oi := { dst := some 35, op := Op.binOp BinOp.geq 2 (Operand.tmp 28) (Operand.tmp 34) 2, type := 4, pos := "l07_sync.go:40", after := #[{ on := 17, ground := Ground.data }, { on := 23, ground := Ground.data }, { on := 10, ground := Ground.guard }], guard := some (10, true) }) (v := .bool false) rfl (by kernel_rfl) (by kernel_rfl) (by kernel_rfl) (fun _ _ _ h => h) (Or.inl ⟨by rfl, ?_⟩) hHeld ?_
              · rintro w ⟨z0, z1, z2, z3⟩; go_simp; (try with_reducible rfl)
              try simp only [Act.put, List.setIfInBounds_toArray, List.set_cons_zero, List.set_cons_succ]
              refine wpAnyH_take (i := 25) (oi := { dst := some 36, op := Op.pick (Operand.tmp 21) (Operand.tmp 35) (Operand.const (Value.bool false)), type := 4, pos := "l07_sync.go:40", after := #[{ on := 10, ground := Ground.data }, { on := 24, ground := Ground.data }, { on := 7, ground := Ground.guard }], guard := some (7, false) }) (v := .bool false) rfl (by kernel_rfl) (by kernel_rfl) (by kernel_rfl) (fun _ _ _ h => h) (Or.inl ⟨by rfl, ?_⟩) hHeld ?_
              · rintro w ⟨z0, z1, z2, z3⟩; go_simp; (try with_reducible rfl)
              try simp only [Act.put, List.setIfInBounds_toArray, List.set_cons_zero, List.set_cons_succ]
              refine wpAnyH_take (i := 26) (oi := { dst := some 37, op := Op.pick (Operand.tmp 18) (Operand.const (Value.bool true)) (Operand.tmp 36), type := 4, pos := "l07_sync.go:40", after := #[{ on := 7, ground := Ground.data }, { on := 25, ground := Ground.data }], guard := none }) (v := .bool false) rfl (by kernel_rfl) (by kernel_rfl) (by kernel_rfl) (fun _ _ _ h => h) (Or.inl ⟨by rfl, ?_⟩) hHeld ?_
              · rintro w ⟨z0, z1, z2, z3⟩; go_simp; (try with_reducible rfl)
              try simp only [Act.put, List.setIfInBounds_toArray, List.set_cons_zero, List.set_cons_succ]
              refine wpAnyH_done (by kernel_rfl) ?_ _
              refine NoPanic.normal ?_
              have HI9 : Hid (InS w (.slice (some ⟨b, off, none⟩) n cap) u) := i
              clear i hHeld HSx
              go_wp2
              exact ⟨⟨k + 1, by omega, by go_num, HQ, HI9⟩, by simp [intOf]; omega⟩
        · rw [decide_eq_false s1] at hs0
          have HF : Hid (decide (SndR l) = false) := HN1 (fun h => s1 h.1)
          clear HN1 HS s1 HG
          obtain ⟨x, hx⟩ : ∃ x, x = (l.getD k ln0).2 := ⟨_, rfl⟩
          obtain ⟨z, hz'⟩ : ∃ z, z = (l.getD k ln0).1 := ⟨_, rfl⟩
          have HR2 : Hid (∀ u, Below w.heap.size w u → u.cell? ⟨b, off + k * 2, none⟩ = some (.int .i64 z) ∧ u.cell? ⟨b, off + k * 2 + 1, none⟩ = some (.string x)) := fun u hu => by rw [hx, hz']; exact HR.out u hu k hlt
          rw [← hx] at c2 h4 hs0
          rw [← hz'] at c1 hs0
          have hs := fun u => hs0 u
          clear hs0 hx hz'
          go_wp2_with fail
          have HSx : Hid (∀ u, InS w (.slice (some ⟨b, off, none⟩) n cap) u → (u.cell? ⟨w.heap.size, 0, none⟩ = some (.slice (some ⟨b, off, none⟩) n cap) ∧ u.cell? ⟨b, off + k * 2, none⟩ = some (.int .i64 z) ∧ u.cell? ⟨b, off + k * 2 + 1, none⟩ = some (.string x))) := fun u hu => ⟨hu.cell, (HR2.out u hu.1).1, (HR2.out u hu.1).2⟩
          have i := HU.out
          clear HU c1 c2 x0 HR2
          refine wp_region_noPanic ?_
          refine wp_region_held_drew (S := fun u => u.cell? ⟨w.heap.size, 0, none⟩ = some (.slice (some ⟨b, off, none⟩) n cap) ∧ u.cell? ⟨b, off + k * 2, none⟩ = some (.int .i64 z) ∧ u.cell? ⟨b, off + k * 2 + 1, none⟩ = some (.string x)) (by kernel_rfl) (HSx.out _ (i.drew)) (fun _ => ?_)
          refine rw.region_w (fun u => InS w (.slice (some ⟨b, off, none⟩) n cap) u) (i.drew) ?_
          clear i
          intro u i
          have hHeld : (u.cell? ⟨w.heap.size, 0, none⟩ = some (.slice (some ⟨b, off, none⟩) n cap) ∧ u.cell? ⟨b, off + k * 2, none⟩ = some (.int .i64 z) ∧ u.cell? ⟨b, off + k * 2 + 1, none⟩ = some (.string x)) := HSx.out u i
          refine wpAnyH_take (i := 0) (oi := { dst := some 11, op := Op.fieldAddr 49 (Operand.tmp 1) 0, type := 0, pos := "l07_sync.go:40", after := #[], guard := none }) (v := ?_) rfl (by kernel_rfl) (by kernel_rfl) (by kernel_rfl) (fun _ _ _ h => h) (Or.inl ⟨by rfl, ?_⟩) hHeld ?_
          rotate_left
          · rintro w ⟨z0, z1, z2⟩; go_simp; (try with_reducible rfl)
          try simp only [Act.put, List.setIfInBounds_toArray, List.set_cons_zero, List.set_cons_succ]
          refine wpAnyH_take (i := 1) (oi := { dst := some 12, op := Op.load 47 (Operand.tmp 11), type := 47, pos := "l07_sync.go:40", after := #[{ on := 0, ground := Ground.data }], guard := none }) (v := ?_) rfl (by kernel_rfl) (by kernel_rfl) (by kernel_rfl) (fun _ _ _ h => h) (Or.inl ⟨by rfl, ?_⟩) hHeld ?_
          rotate_left
          · rintro w ⟨z0, z1, z2⟩; go_simp; (try with_reducible rfl)
          try simp only [Act.put, List.setIfInBounds_toArray, List.set_cons_zero, List.set_cons_succ]
          refine wpAnyH_take (i := 2) (oi := { dst := some 13, op := Op.move (Operand.tmp 3), type := 3, pos := "l07_sync.go:40", after := #[], guard := none }) (v := ?_) rfl (by kernel_rfl) (by kernel_rfl) (by kernel_rfl) (fun _ _ _ h => h) (Or.inl ⟨by rfl, ?_⟩) hHeld ?_
          rotate_left
          · rintro w ⟨z0, z1, z2⟩; go_simp; (try with_reducible rfl)
          try simp only [Act.put, List.setIfInBounds_toArray, List.set_cons_zero, List.set_cons_succ]
          refine wpAnyH_take (i := 3) (oi := { dst := some 14, op := Op.indexAddr 47 (Operand.tmp 12) (Operand.tmp 13), type := 0, pos := "l07_sync.go:40", after := #[{ on := 1, ground := Ground.data }, { on := 2, ground := Ground.data }], guard := none }) (v := ?_) rfl (by kernel_rfl) (by kernel_rfl) (by kernel_rfl) (fun _ _ _ h => h) (Or.inl ⟨by rfl, ?_⟩) hHeld ?_
          rotate_left
          · rintro w ⟨z0, z1, z2⟩; go_simp; (try with_reducible rfl)
          try simp only [Act.put, List.setIfInBounds_toArray, List.set_cons_zero, List.set_cons_succ]
          refine wpAnyH_take (i := 4) (oi := { dst := some 15, op := Op.load 28 (Operand.tmp 14), type := 28, pos := "l07_sync.go:40", after := #[{ on := 3, ground := Ground.data }], guard := none }) (v := ?_) rfl (by kernel_rfl) (by kernel_rfl) (by kernel_rfl) (fun _ _ _ h => h) (Or.inl ⟨by rfl, ?_⟩) hHeld ?_
          rotate_left
          · rintro w ⟨z0, z1, z2⟩; go_simp; (try with_reducible rfl)
          try simp only [Act.put, List.setIfInBounds_toArray, List.set_cons_zero, List.set_cons_succ]
          refine wpAnyH_ready (rs := [5]) (by kernel_rfl) (by simp) ?_
          refine AllReadyH.cons rfl (fun K hK => ?_) AllReadyH.nil
          go_simp
          go_at_call 35
          refine (hs u).mono ?_
          rintro r7 w7 ⟨rfl, hb⟩
          go_wp2_with fail
          refine hK.out _ _ (HSx.out _ (i.up hb)) (fun _ => ?_)
          clear hK K hHeld
          try simp only [Act.put, List.setIfInBounds_toArray, List.set_cons_zero, List.set_cons_succ]
          refine rw.region_w (fun u => InS w (.slice (some ⟨b, off, none⟩) n cap) u) (i.up hb) ?_
          clear i hb
          intro u i
          have hHeld : (u.cell? ⟨w.heap.size, 0, none⟩ = some (.slice (some ⟨b, off, none⟩) n cap) ∧ u.cell? ⟨b, off + k * 2, none⟩ = some (.int .i64 z) ∧ u.cell? ⟨b, off + k * 2 + 1, none⟩ = some (.string x)) := HSx.out u i
          refine wpAnyH_take (i := 6) (oi := { dst := some 17, op := Op.unOp UnOp.not 4 (Operand.tmp 16), type := 4, pos := "l07_sync.go:40", after := #[{ on := 5, ground := Ground.data }], guard := none }) (v := ?_) rfl (by kernel_rfl) (by kernel_rfl) (by kernel_rfl) (fun _ _ _ h => h) (Or.inl ⟨by rfl, ?_⟩) hHeld ?_
          rotate_left
          · rintro w ⟨z0, z1, z2⟩; go_simp; (try with_reducible rfl)
          try simp only [Act.put, List.setIfInBounds_toArray, List.set_cons_zero, List.set_cons_succ]
          refine wpAnyH_take (i := 7) (oi := { dst := some 18, op := Op.move (Operand.tmp 17), type := 4, pos := "l07_sync.go:40", after := #[{ on := 6, ground := Ground.data }, { on := 5, ground := Ground.chain }], guard := none }) (v := ?_) rfl (by kernel_rfl) (by kernel_rfl) (by kernel_rfl) (fun _ _ _ h => h) (Or.inl ⟨by rfl, ?_⟩) hHeld ?_
          rotate_left
          · rintro w ⟨z0, z1, z2⟩; go_simp; (try with_reducible rfl)
          try simp only [Act.put, List.setIfInBounds_toArray, List.set_cons_zero, List.set_cons_succ]
          refine wpAnyH_take (i := 8) (oi := { dst := some 19, op := Op.move (Operand.tmp 3), type := 3, pos := "l07_sync.go:40", after := #[{ on := 7, ground := Ground.guard }], guard := some (7, false) }) (v := undef) rfl (by kernel_rfl) (by kernel_rfl) (by kernel_rfl) (fun _ _ _ h => h) (Or.inr ⟨by rfl, rfl⟩) hHeld ?_
          try simp only [Act.put, List.setIfInBounds_toArray, List.set_cons_zero, List.set_cons_succ]
          refine wpAnyH_take (i := 9) (oi := { dst := some 20, op := Op.binOp BinOp.gtr 3 (Operand.tmp 19) (Operand.const (Value.int IntKind.i64 0)) 3, type := 4, pos := "l07_sync.go:40", after := #[{ on := 8, ground := Ground.data }, { on := 7, ground := Ground.guard }], guard := some (7, false) }) (v := undef) rfl (by kernel_rfl) (by kernel_rfl) (by kernel_rfl) (fun _ _ _ h => h) (Or.inr ⟨by rfl, rfl⟩) hHeld ?_
          try simp only [Act.put, List.setIfInBounds_toArray, List.set_cons_zero, List.set_cons_succ]
          refine wpAnyH_take (i := 10) (oi := { dst := some 21, op := Op.move (Operand.tmp 20), type := 4, pos := "l07_sync.go:40", after := #[{ on := 9, ground := Ground.data }, { on := 7, ground := Ground.chain }, { on := 7, ground := Ground.guard }], guard := some (7, false) }) (v := undef) rfl (by kernel_rfl) (by kernel_rfl) (by kernel_rfl) (fun _ _ _ h => h) (Or.inr ⟨by rfl, rfl⟩) hHeld ?_
          try simp only [Act.put, List.setIfInBounds_toArray, List.set_cons_zero, List.set_cons_succ]
          refine wpAnyH_take (i := 11) (oi := { dst := some 22, op := Op.fieldAddr 49 (Operand.tmp 1) 0, type := 0, pos := "l07_sync.go:40", after := #[{ on := 10, ground := Ground.guard }], guard := some (10, true) }) (v := undef) rfl (by kernel_rfl) (by kernel_rfl) (by kernel_rfl) (fun _ _ _ h => h) (Or.inr ⟨by rfl, rfl⟩) hHeld ?_
          try simp only [Act.put, List.setIfInBounds_toArray, List.set_cons_zero, List.set_cons_succ]
          refine wpAnyH_take (i := 12) (oi := { dst := some 23, op := Op.load 47 (Operand.tmp 22), type := 47, pos := "l07_sync.go:40", after := #[{ on := 11, ground := Ground.data }, { on := 10, ground := Ground.guard }], guard := some (10, true) }) (v := undef) rfl (by kernel_rfl) (by kernel_rfl) (by kernel_rfl) (fun _ _ _ h => h) (Or.inr ⟨by rfl, rfl⟩) hHeld ?_
          try simp only [Act.put, List.setIfInBounds_toArray, List.set_cons_zero, List.set_cons_succ]
          refine wpAnyH_take (i := 13) (oi := { dst := some 24, op := Op.move (Operand.tmp 3), type := 3, pos := "l07_sync.go:40", after := #[{ on := 10, ground := Ground.guard }], guard := some (10, true) }) (v := undef) rfl (by kernel_rfl) (by kernel_rfl) (by kernel_rfl) (fun _ _ _ h => h) (Or.inr ⟨by rfl, rfl⟩) hHeld ?_
          try simp only [Act.put, List.setIfInBounds_toArray, List.set_cons_zero, List.set_cons_succ]
          refine wpAnyH_take (i := 14) (oi := { dst := some 25, op := Op.binOp BinOp.sub 3 (Operand.tmp 24) (Operand.const (Value.int IntKind.i64 1)) 3, type := 3, pos := "l07_sync.go:40", after := #[{ on := 13, ground := Ground.data }, { on := 10, ground := Ground.guard }], guard := some (10, true) }) (v := undef) rfl (by kernel_rfl) (by kernel_rfl) (by kernel_rfl) (fun _ _ _ h => h) (Or.inr ⟨by rfl, rfl⟩) hHeld ?_
          try simp only [Act.put, List.setIfInBounds_toArray, List.set_cons_zero, List.set_cons_succ]
          refine wpAnyH_take (i := 15) (oi := { dst := some 26, op := Op.indexAddr 47 (Operand.tmp 23) (Operand.tmp 25), type := 0, pos := "l07_sync.go:40", after := #[{ on := 12, ground := Ground.data }, { on := 14, ground := Ground.data }, { on := 10, ground := Ground.guard }], guard := some (10, true) }) (v := undef) rfl (by kernel_rfl) (by kernel_rfl) (by kernel_rfl) (fun _ _ _ h => h) (Or.inr ⟨by rfl, rfl⟩) hHeld ?_
          try simp only [Act.put, List.setIfInBounds_toArray, List.set_cons_zero, List.set_cons_succ]
          refine wpAnyH_take (i := 16) (oi := { dst := some 27, op := Op.fieldAddr 28 (Operand.tmp 26) 0, type := 0, pos := "l07_sync.go:40", after := #[{ on := 15, ground := Ground.data }, { on := 10, ground := Ground.guard }], guard := some (10, true) }) (v := undef) rfl (by kernel_rfl) (by kernel_rfl) (by kernel_rfl) (fun _ _ _ h => h) (Or.inr ⟨by rfl, rfl⟩) hHeld ?_
          try simp only [Act.put, List.setIfInBounds_toArray, List.set_cons_zero, List.set_cons_succ]
          refine wpAnyH_take (i := 17) (oi := { dst := some 28, op := Op.load 2 (Operand.tmp 27), type := 2, pos := "l07_sync.go:40", after := #[{ on := 16, ground := Ground.data }, { on := 10, ground := Ground.guard }], guard := some (10, true) }) (v := undef) rfl (by kernel_rfl) (by kernel_rfl) (by kernel_rfl) (fun _ _ _ h => h) (Or.inr ⟨by rfl, rfl⟩) hHeld ?_
          try simp only [Act.put, List.setIfInBounds_toArray, List.set_cons_zero, List.set_cons_succ]
          refine wpAnyH_take (i := 18) (oi := { dst := some 29, op := Op.fieldAddr 49 (Operand.tmp 1) 0, type := 0, pos := "l07_sync.go:40", after := #[{ on := 10, ground := Ground.guard }], guard := some (10, true) }) (v := undef) rfl (by kernel_rfl) (by kernel_rfl) (by kernel_rfl) (fun _ _ _ h => h) (Or.inr ⟨by rfl, rfl⟩) hHeld ?_
          try simp only [Act.put, List.setIfInBounds_toArray, List.set_cons_zero, List.set_cons_succ]
          refine wpAnyH_take (i := 19) (oi := { dst := some 30, op := Op.load 47 (Operand.tmp 29), type := 47, pos := "l07_sync.go:40", after := #[{ on := 18, ground := Ground.data }, { on := 10, ground := Ground.guard }], guard := some (10, true) }) (v := undef) rfl (by kernel_rfl) (by kernel_rfl) (by kernel_rfl) (fun _ _ _ h => h) (Or.inr ⟨by rfl, rfl⟩) hHeld ?_
          try simp only [Act.put, List.setIfInBounds_toArray, List.set_cons_zero, List.set_cons_succ]
          refine wpAnyH_take (i := 20) (oi := { dst := some 31, op := Op.move (Operand.tmp 3), type := 3, pos := "l07_sync.go:40", after := #[{ on := 10, ground := Ground.guard }], guard := some (10, true) }) (v := undef) rfl (by kernel_rfl) (by kernel_rfl) (by kernel_rfl) (fun _ _ _ h => h) (Or.inr ⟨by rfl, rfl⟩) hHeld ?_
          try simp only [Act.put, List.setIfInBounds_toArray, List.set_cons_zero, List.set_cons_succ]
          refine wpAnyH_take (i := 21) (oi := { dst := some 32, op := Op.indexAddr 47 (Operand.tmp 30) (Operand.tmp 31), type := 0, pos := "l07_sync.go:40", after := #[{ on := 19, ground := Ground.data }, { on := 20, ground := Ground.data }, { on := 10, ground := Ground.guard }], guard := some (10, true) }) (v := undef) rfl (by kernel_rfl) (by kernel_rfl) (by kernel_rfl) (fun _ _ _ h => h) (Or.inr ⟨by rfl, rfl⟩) hHeld ?_
          try simp only [Act.put, List.setIfInBounds_toArray, List.set_cons_zero, List.set_cons_succ]
          refine wpAnyH_take (i := 22) (oi := { dst := some 33, op := Op.fieldAddr 28 (Operand.tmp 32) 0, type := 0, pos := "l07_sync.go:40", after := #[{ on := 21, ground := Ground.data }, { on := 10, ground := Ground.guard }], guard := some (10, true) }) (v := undef) rfl (by kernel_rfl) (by kernel_rfl) (by kernel_rfl) (fun _ _ _ h => h) (Or.inr ⟨by rfl, rfl⟩) hHeld ?_
          try simp only [Act.put, List.setIfInBounds_toArray, List.set_cons_zero, List.set_cons_succ]
          refine wpAnyH_take (i := 23) (oi := { dst := some 34, op := Op.load 2 (Operand.tmp 33), type := 2, pos := "l07_sync.go:40", after := #[{ on := 22, ground := Ground.data }, { on := 10, ground := Ground.guard }], guard := some (10, true) }) (v := undef) rfl (by kernel_rfl) (by kernel_rfl) (by kernel_rfl) (fun _ _ _ h => h) (Or.inr ⟨by rfl, rfl⟩) hHeld ?_
          try simp only [Act.put, List.setIfInBounds_toArray, List.set_cons_zero, List.set_cons_succ]
          refine wpAnyH_take (i := 24) (oi := { dst := some 35, op := Op.binOp BinOp.geq 2 (Operand.tmp 28) (Operand.tmp 34) 2, type := 4, pos := "l07_sync.go:40", after := #[{ on := 17, ground := Ground.data }, { on := 23, ground := Ground.data }, { on := 10, ground := Ground.guard }], guard := some (10, true) }) (v := undef) rfl (by kernel_rfl) (by kernel_rfl) (by kernel_rfl) (fun _ _ _ h => h) (Or.inr ⟨by rfl, rfl⟩) hHeld ?_
          try simp only [Act.put, List.setIfInBounds_toArray, List.set_cons_zero, List.set_cons_succ]
          refine wpAnyH_take (i := 25) (oi := { dst := some 36, op := Op.pick (Operand.tmp 21) (Operand.tmp 35) (Operand.const (Value.bool false)), type := 4, pos := "l07_sync.go:40", after := #[{ on := 10, ground := Ground.data }, { on := 24, ground := Ground.data }, { on := 7, ground := Ground.guard }], guard := some (7, false) }) (v := undef) rfl (by kernel_rfl) (by kernel_rfl) (by kernel_rfl) (fun _ _ _ h => h) (Or.inr ⟨by rfl, rfl⟩) hHeld ?_
          try simp only [Act.put, List.setIfInBounds_toArray, List.set_cons_zero, List.set_cons_succ]
          refine wpAnyH_take (i := 26) (oi := { dst := some 37, op := Op.pick (Operand.tmp 18) (Operand.const (Value.bool true)) (Operand.tmp 36), type := 4, pos := "l07_sync.go:40", after := #[{ on := 7, ground := Ground.data }, { on := 25, ground := Ground.data }], guard := none }) (v := .bool true) rfl (by kernel_rfl) (by kernel_rfl) (by kernel_rfl) (fun _ _ _ h => h) (Or.inl ⟨by rfl, ?_⟩) hHeld ?_
          · rintro w ⟨z0, z1, z2⟩; go_simp; (try with_reducible rfl)
          try simp only [Act.put, List.setIfInBounds_toArray, List.set_cons_zero, List.set_cons_succ]
          refine wpAnyH_done (by kernel_rfl) ?_ _
          refine NoPanic.normal ?_
          have HB : Hid (Below w.heap.size w u) := i.1
          clear i hHeld HSx
          go_wp2
          go_ret
          exact ⟨ret_b HF.out.symm, HB.out⟩
      · obtain rfl : k = n := by omega
        have HF : Hid (decide (1 ≤ (k : Int) ∧ (k : Int) ≤ 8) = decide (SndR l)) := (HD.out HG.out).symm
        clear HG HD HN HR HZ
        go_wp2_with (go_at_call 40; (with_reducible refine (hw _).mono ?_); rintro r w' ⟨rfl, hw'⟩; obtain rfl := hw'.symm)
        go_ret
        exact ⟨ret_b (by rw [← Bool.decide_and]; exact HF.out), HU.out.1⟩
end Go.Proofs.Ytjjfdkmhoocfhaa.st
