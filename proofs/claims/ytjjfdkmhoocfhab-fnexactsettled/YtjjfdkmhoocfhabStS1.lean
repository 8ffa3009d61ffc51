/-
  Settled: the program's. No condition.
-/
import Derived.Test.YtjjfdkmhoocfhabStQo
namespace Go.Proofs.Ytjjfdkmhoocfhab.st
open Go.ChangeShapes Go.WideShapes Go.ChangeAt Go.RowKit
open Go.Proofs.Ytjjfdkmhoocfhab.wi (heap_lt calls_w wp_w)
open Classical
set_option linter.unusedVariables false

/-- the sender is right, and its last state is this -/
def SetR (l : List Ln) (n : Int) (t : ByteArray) : Prop := SndR l ∧ (l.getD (l.length - 1) ln0).1 = n ∧ (l.getD (l.length - 1) ln0).2 = t
/-- a row in a block that is there -/
def RowL (u : World) (g off : Nat) (l : List Ln) : Prop := g < u.heap.size ∧ Row u g off l
theorem RowL.up {u u' : World} {g off : Nat} {l : List Ln} (h : RowL u g off l) (hb : Below u.heap.size u u') : RowL u' g off l := ⟨Nat.lt_of_lt_of_le h.1 hb.size, h.2.below hb h.1⟩
/-- the arguments' blocks -/
structure InZ (w : World) (v : Value) (n : Int) (t : ByteArray) (u : World) : Prop where
  bel : Below w.heap.size w u
  arg : rw.At u w.heap.size #[v] 28
  rcv : rw.At u (w.heap.size + 1) #[.int .i64 n, .string t] 48
theorem InZ.new {w : World} {v : Value} {n : Int} {t : ByteArray} : InZ w v n t ((w.alloc (.cells #[v] 28)).alloc (.cells #[.int .i64 n, .string t] 48)) :=
  ⟨((Below.refl _ _).alloc (Nat.le_refl _) _).alloc (by simp) _, (Below.heap_alloc _ _ _ (by simp)).trans (heap_alloc_new _ _), by have := rw.At.new (w.alloc (.cells #[v] 28)) #[.int .i64 n, .string t] 48; rwa [World.size_alloc] at this⟩
theorem InZ.up {w u u' : World} {v : Value} {n : Int} {t : ByteArray} (h : InZ w v n t u) (hb : Below u.heap.size u u') : InZ w v n t u' := ⟨h.bel.trans (hb.mono h.bel.size), h.arg.up hb, h.rcv.up hb⟩
theorem InZ.cells {w u : World} {v : Value} {n : Int} {t : ByteArray} (h : InZ w v n t u) : u.cell? ⟨w.heap.size, 0, none⟩ = some v ∧ u.cell? ⟨w.heap.size + 1, 0, none⟩ = some (.int .i64 n) ∧ u.cell? ⟨w.heap.size + 1, 1, none⟩ = some (.string t) := ⟨h.arg.cell 0, h.rcv.cell 0, h.rcv.cell 1⟩
set_option maxHeartbeats 4000000 in
theorem setI_any (v : Value) (l : List Ln) (n : Int) (t : ByteArray) (w : World) (hl : l.length ≤ maxLen) (hz : ∀ r ∈ l, r.2.size ≤ maxLen) (ht : t.size ≤ maxLen) (hv : SliceIs w v l) :
    Calls Try.prog 23 #[.agg #[v], .agg #[.int .i64 n, .string t]] w fun e w' => e = .returned (.bool (decide (SetR l n t))) ∧ Below w.heap.size w w' := by
  have HI : Hid (InZ w v n t ((w.alloc (.cells #[v] 28)).alloc (.cells #[.int .i64 n, .string t] 48))) := InZ.new
  have hs := fun u (hu : Below w.heap.size w u) => sndI_any v l u hl hz (hv.up hu)
  by_cases s1 : SndR l
  · rw [decide_eq_true s1] at hs
    have hne : l ≠ [] := fun e => by have := s1.1.1; rw [e] at this; simp at this
    obtain ⟨b, off, cap, hb, rfl, hR0⟩ := slice_row hv hne
    have hz4 : ∀ k, k < l.length → (l.getD k ln0).2.size ≤ 400 := fun k hk => (s1.2.1 k hk).2
    have hl8 : l.length ≤ 8 := s1.1.2
    have hl9 : l.length ≤ 1000 := Nat.le_trans hl8 (by decide)
    have hln : 0 < l.length := s1.1.1
    have HR0 : Hid (∀ u, Below w.heap.size w u → Row u b off l) := fun u hu => hR0.below hu hb
    obtain ⟨z, hz'⟩ : ∃ z, z = (l.getD (l.length - 1) ln0).1 := ⟨_, rfl⟩
    obtain ⟨x, hx⟩ : ∃ x, x = (l.getD (l.length - 1) ln0).2 := ⟨_, rfl⟩
    have HLA : Hid (∀ (q g o2 c2 : Nat) (u : World), RowL u g o2 l → rw.At u q #[.slice (some ⟨g, o2, none⟩) l.length c2] 69 → Calls Try.prog 43 #[.pointer (some ⟨q, 0, none⟩)] u fun e w' => e = .returned (.agg #[.int .i64 z, .string x]) ∧ Below u.heap.size u w') := fun q g o2 c2 u hr hbx => by
      rw [hz', hx]; exact last_any q g o2 c2 l u hl9 hln hr.1 hbx hr.2
    by_cases s2 : z = n ∧ x = t
    · obtain ⟨e1, e2⟩ := s2
      have HF : Hid (true = decide (SetR l n t)) := (decide_eq_true (show SetR l n t from ⟨s1, by rw [← hz', e1], by rw [← hx, e2]⟩)).symm
      have e1' := e1.symm
      have e2' := e2.symm
      clear e1 e2
      subst e1' e2'
      clear hz' hx s1 hR0 hv hz
      go_enter Try.func23, Try.ntmps23
      go_wp2_with fail
      have HS : Hid (∀ u, InZ w (.slice (some ⟨b, off, none⟩) l.length cap) n t u → (u.cell? ⟨w.heap.size, 0, none⟩ = some (.slice (some ⟨b, off, none⟩) l.length cap) ∧ u.cell? ⟨w.heap.size + 1, 0, none⟩ = some (.int .i64 n) ∧ u.cell? ⟨w.heap.size + 1, 1, none⟩ = some (.string t))) := fun u h => h.cells
      refine wp_region_noPanic ?_
      refine wp_region_held_drew (S := fun u => u.cell? ⟨w.heap.size, 0, none⟩ = some (.slice (some ⟨b, off, none⟩) l.length cap) ∧ u.cell? ⟨w.heap.size + 1, 0, none⟩ = some (.int .i64 n) ∧ u.cell? ⟨w.heap.size + 1, 1, none⟩ = some (.string t)) (by kernel_rfl) (HS.out _ (HI.out.up (rw.up_drew _))) (fun _ => ?_)
      refine rw.region_w (fun u => InZ w (.slice (some ⟨b, off, none⟩) l.length cap) n t u) (HI.out.up (rw.up_drew _)) ?_
      clear HI
      intro u i
      have hHeld : (u.cell? ⟨w.heap.size, 0, none⟩ = some (.slice (some ⟨b, off, none⟩) l.length cap) ∧ u.cell? ⟨w.heap.size + 1, 0, none⟩ = some (.int .i64 n) ∧ u.cell? ⟨w.heap.size + 1, 1, none⟩ = some (.string t)) := HS.out u i
      refine wpAnyH_take (i := 0) (oi := { dst := some 5, op := Op.load 28 (Operand.tmp 2), type := 28, pos := "l07_sync.go:214", after := #[], guard := none }) (v := ?_) rfl (by kernel_rfl) (by kernel_rfl) (by kernel_rfl) (fun _ _ _ h => h) (Or.inl ⟨by rfl, ?_⟩) hHeld ?_
      rotate_left
      · rintro w ⟨z0, z1, z2⟩; go_simp; (try with_reducible rfl)
      try simp only [Act.put, List.setIfInBounds_toArray, List.set_cons_zero, List.set_cons_succ]
      refine wpAnyH_ready (rs := [1]) (by kernel_rfl) (by simp) ?_
      refine AllReadyH.cons rfl (fun K hK => ?_) AllReadyH.nil
      go_simp
      go_at_call 27
      refine (hs u i.bel).mono ?_
      rintro r7 w7 ⟨rfl, hb⟩
      go_wp2_with fail
      refine hK.out _ _ (HS.out _ (i.up hb)) (fun _ => ?_)
      clear hK K hHeld
      try simp only [Act.put, List.setIfInBounds_toArray, List.set_cons_zero, List.set_cons_succ]
      refine rw.region_w (fun u => InZ w (.slice (some ⟨b, off, none⟩) l.length cap) n t u) (i.up hb) ?_
      clear i hb
      intro u i
      have hHeld : (u.cell? ⟨w.heap.size, 0, none⟩ = some (.slice (some ⟨b, off, none⟩) l.length cap) ∧ u.cell? ⟨w.heap.size + 1, 0, none⟩ = some (.int .i64 n) ∧ u.cell? ⟨w.heap.size + 1, 1, none⟩ = some (.string t)) := HS.out u i
      refine wpAnyH_take (i := 2) (oi := { dst := some 7, op := Op.move (Operand.tmp 6), type := 4, pos := "l07_sync.go:214", after := #[{ on := 1, ground := Ground.data }, { on := 1, ground := Ground.chain }], guard := none }) (v := ?_) rfl (by kernel_rfl) (by kernel_rfl) (by kernel_rfl) (fun _ _ _ h => h) (Or.inl ⟨by rfl, ?_⟩) hHeld ?_
      rotate_left
      · rintro w ⟨z0, z1, z2⟩; go_simp; (try with_reducible rfl)
      try simp only [Act.put, List.setIfInBounds_toArray, List.set_cons_zero, List.set_cons_succ]
      refine wpAnyH_take (i := 3) (oi := { dst := some 8, op := Op.load 28 (Operand.tmp 2), type := 28, pos := "l07_sync.go:214", after := #[{ on := 2, ground := Ground.guard }], guard := some (2, true) }) (v := ?_) rfl (by kernel_rfl) (by kernel_rfl) (by kernel_rfl) (fun _ _ _ h => h) (Or.inl ⟨by rfl, ?_⟩) hHeld ?_
      rotate_left
      · rintro w ⟨z0, z1, z2⟩; go_simp; (try with_reducible rfl)
      try simp only [Act.put, List.setIfInBounds_toArray, List.set_cons_zero, List.set_cons_succ]
      refine wpAnyH_take (i := 6) (oi := { dst := some 11, op := Op.fieldAddr 48 (Operand.tmp 3) 0, type := 0, pos := "l07_sync.go:214", after := #[{ on := 2, ground := Ground.guard }], guard := some (2, true) }) (v := ?_) rfl (by kernel_rfl) (by kernel_rfl) (by kernel_rfl) (fun _ _ _ h => h) (Or.inl ⟨by rfl, ?_⟩) hHeld ?_
      rotate_left
      · rintro w ⟨z0, z1, z2⟩; go_simp; (try with_reducible rfl)
      try simp only [Act.put, List.setIfInBounds_toArray, List.set_cons_zero, List.set_cons_succ]
      refine wpAnyH_take (i := 7) (oi := { dst := some 12, op := Op.load 46 (Operand.tmp 11), type := 46, pos := "l07_sync.go:214", after := #[{ on := 6, ground := Ground.data }, { on := 2, ground := Ground.guard }], guard := some (2, true) }) (v := ?_) rfl (by kernel_rfl) (by kernel_rfl) (by kernel_rfl) (fun _ _ _ h => h) (Or.inl ⟨by rfl, ?_⟩) hHeld ?_
      rotate_left
      · rintro w ⟨z0, z1, z2⟩; go_simp; (try with_reducible rfl)
      try simp only [Act.put, List.setIfInBounds_toArray, List.set_cons_zero, List.set_cons_succ]
      refine wpAnyH_ready (rs := [4]) (by kernel_rfl) (by simp) ?_
      refine AllReadyH.cons rfl (fun K hK => ?_) AllReadyH.nil
      go_simp
      go_at_call 28
      refine (queue_any b off cap l u hl8 hz4 (Nat.lt_of_lt_of_le hb i.bel.size) (HR0.out u i.bel)).mono ?_
      rintro r7 w7 ⟨q, vq, rfl, hq⟩
      obtain ⟨g, o2, c2, hg, rfl, hR2⟩ := slice_row hq.own.slice hne
      have hb7 := hq.bel
      have hbx := hq.box
      clear hq
      go_wp2_with fail
      refine hK.out _ _ (HS.out _ (i.up hb7)) (fun _ => ?_)
      clear hK K hHeld
      try simp only [Act.put, List.setIfInBounds_toArray, List.set_cons_zero, List.set_cons_succ]
      refine rw.region_w (fun u => (InZ w (.slice (some ⟨b, off, none⟩) l.length cap) n t u) ∧ (rw.At u q #[.slice (some ⟨g, o2, none⟩) l.length c2] 69) ∧ (RowL u g o2 l)) ⟨i.up hb7, hbx, ⟨hg, hR2⟩⟩ ?_
      clear i hb7 hbx hg hR2
      rintro u ⟨i, bx, rl⟩
      have hHeld : (u.cell? ⟨w.heap.size, 0, none⟩ = some (.slice (some ⟨b, off, none⟩) l.length cap) ∧ u.cell? ⟨w.heap.size + 1, 0, none⟩ = some (.int .i64 n) ∧ u.cell? ⟨w.heap.size + 1, 1, none⟩ = some (.string t)) := HS.out u i
      refine wpAnyH_ready (rs := [5]) (by kernel_rfl) (by simp) ?_
      refine AllReadyH.cons rfl (fun K hK => ?_) AllReadyH.nil
      go_simp
      go_at_call 43
      refine (HLA.out q g o2 c2 u rl bx).mono ?_
      rintro r7 w7 ⟨rfl, hb⟩
      go_wp2_with fail
      refine hK.out _ _ (HS.out _ (i.up hb)) (fun _ => ?_)
      clear hK K hHeld
      try simp only [Act.put, List.setIfInBounds_toArray, List.set_cons_zero, List.set_cons_succ]
      refine rw.region_w (fun u => (InZ w (.slice (some ⟨b, off, none⟩) l.length cap) n t u) ∧ (rw.At u q #[.slice (some ⟨g, o2, none⟩) l.length c2] 69) ∧ (RowL u g o2 l)) ⟨i.up hb, bx.up hb, rl.up hb⟩ ?_
      clear i bx rl hb
      rintro u ⟨i, bx, rl⟩
      have hHeld : (u.cell? ⟨w.heap.size, 0, none⟩ = some (.slice (some ⟨b, off, none⟩) l.length cap) ∧ u.cell? ⟨w.heap.size + 1, 0, none⟩ = some (.int .i64 n) ∧ u.cell? ⟨w.heap.size + 1, 1, none⟩ = some (.string t)) := HS.out u i
      refine wpAnyH_take (i := 8) (oi := { dst := some 13, op := Op.binOp BinOp.eql 46 (Operand.tmp 10) (Operand.tmp 12) 46, type := 4, pos := "l07_sync.go:214", after := #[{ on := 5, ground := Ground.data }, { on := 7, ground := Ground.data }, { on := 2, ground := Ground.guard }], guard := some (2, true) }) (v := .bool true) rfl (by kernel_rfl) (by kernel_rfl) (by kernel_rfl) (fun _ _ _ h => h) (Or.inl ⟨by rfl, ?_⟩) hHeld ?_
      · rintro w ⟨z0, z1, z2⟩; go_simp; (try with_reducible rfl)
      try simp only [Act.put, List.setIfInBounds_toArray, List.set_cons_zero, List.set_cons_succ]
      refine wpAnyH_take (i := 9) (oi := { dst := some 14, op := Op.pick (Operand.tmp 7) (Operand.tmp 13) (Operand.const (Value.bool false)), type := 4, pos := "l07_sync.go:214", after := #[{ on := 2, ground := Ground.data }, { on := 8, ground := Ground.data }], guard := none }) (v := .bool true) rfl (by kernel_rfl) (by kernel_rfl) (by kernel_rfl) (fun _ _ _ h => h) (Or.inl ⟨by rfl, ?_⟩) hHeld ?_
      · rintro w ⟨z0, z1, z2⟩; go_simp; (try with_reducible rfl)
      try simp only [Act.put, List.setIfInBounds_toArray, List.set_cons_zero, List.set_cons_succ]
      refine wpAnyH_take (i := 10) (oi := { dst := some 4, op := Op.assign (Operand.tmp 14), type := 4, pos := "l07_sync.go:214", after := #[{ on := 9, ground := Ground.data }, { on := 5, ground := Ground.chain }, { on := 0, ground := Ground.phase }, { on := 1, ground := Ground.phase }, { on := 2, ground := Ground.phase }, { on := 3, ground := Ground.phase }, { on := 4, ground := Ground.phase }, { on := 5, ground := Ground.phase }, { on := 6, ground := Ground.phase }, { on := 7, ground := Ground.phase }, { on := 8, ground := Ground.phase }, { on := 9, ground := Ground.phase }], guard := none }) (v := .bool true) rfl (by kernel_rfl) (by kernel_rfl) (by kernel_rfl) (fun _ _ _ h => h) (Or.inl ⟨by rfl, ?_⟩) hHeld ?_
      · rintro w ⟨z0, z1, z2⟩; go_simp; (try with_reducible rfl)
      try simp only [Act.put, List.setIfInBounds_toArray, List.set_cons_zero, List.set_cons_succ]
      refine wpAnyH_done (by kernel_rfl) ?_ _
      refine NoPanic.normal ?_
      have HB : Hid (Below w.heap.size w u) := i.bel
      clear i hHeld HS hs HLA HR0 bx rl
      go_wp2
      go_ret
      exact ⟨ret_b HF.out, HB.out⟩
    · have HF : Hid (false = decide (SetR l n t)) := (decide_eq_false (fun h : SetR l n t => s2 ⟨by rw [hz', h.2.1], by rw [hx, h.2.2]⟩)).symm
      have heq : Hid (z = n → ¬ x.toList = t.toList) := fun e1 e2 => s2 ⟨e1, by
        by_cases e3 : x = t
        · exact e3
        · have := ss.beqF e3; rw [e2] at this; simp at this⟩
      clear hz' hx s1 hR0 hv hz s2
      go_enter Try.func23, Try.ntmps23
      go_wp2_with fail
      have HS : Hid (∀ u, InZ w (.slice (some ⟨b, off, none⟩) l.length cap) n t u → (u.cell? ⟨w.heap.size, 0, none⟩ = some (.slice (some ⟨b, off, none⟩) l.length cap) ∧ u.cell? ⟨w.heap.size + 1, 0, none⟩ = some (.int .i64 n) ∧ u.cell? ⟨w.heap.size + 1, 1, none⟩ = some (.string t))) := fun u h => h.cells
      refine wp_region_noPanic ?_
      refine wp_region_held_drew (S := fun u => u.cell? ⟨w.heap.size, 0, none⟩ = some (.slice (some ⟨b, off, none⟩) l.length cap) ∧ u.cell? ⟨w.heap.size + 1, 0, none⟩ = some (.int .i64 n) ∧ u.cell? ⟨w.heap.size + 1, 1, none⟩ = some (.string t)) (by kernel_rfl) (HS.out _ (HI.out.up (rw.up_drew _))) (fun _ => ?_)
      refine rw.region_w (fun u => InZ w (.slice (some ⟨b, off, none⟩) l.length cap) n t u) (HI.out.up (rw.up_drew _)) ?_
      clear HI
      intro u i
      have hHeld : (u.cell? ⟨w.heap.size, 0, none⟩ = some (.slice (some ⟨b, off, none⟩) l.length cap) ∧ u.cell? ⟨w.heap.size + 1, 0, none⟩ = some (.int .i64 n) ∧ u.cell? ⟨w.heap.size + 1, 1, none⟩ = some (.string t)) := HS.out u i
      refine wpAnyH_take (i := 0) (oi := { dst := some 5, op := Op.load 28 (Operand.tmp 2), type := 28, pos := "l07_sync.go:214", after := #[], guard := none }) (v := ?_) rfl (by kernel_rfl) (by kernel_rfl) (by kernel_rfl) (fun _ _ _ h => h) (Or.inl ⟨by rfl, ?_⟩) hHeld ?_
      rotate_left
      · rintro w ⟨z0, z1, z2⟩; go_simp; (try with_reducible rfl)
      try simp only [Act.put, List.setIfInBounds_toArray, List.set_cons_zero, List.set_cons_succ]
      refine wpAnyH_ready (rs := [1]) (by kernel_rfl) (by simp) ?_
      refine AllReadyH.cons rfl (fun K hK => ?_) AllReadyH.nil
      go_simp
      go_at_call 27
      refine (hs u i.bel).mono ?_
      rintro r7 w7 ⟨rfl, hb⟩
      go_wp2_with fail
      refine hK.out _ _ (HS.out _ (i.up hb)) (fun _ => ?_)
      clear hK K hHeld
      try simp only [Act.put, List.setIfInBounds_toArray, List.set_cons_zero, List.set_cons_succ]
      refine rw.region_w (fun u => InZ w (.slice (some ⟨b, off, none⟩) l.length cap) n t u) (i.up hb) ?_
      clear i hb
      intro u i
      have hHeld : (u.cell? ⟨w.heap.size, 0, none⟩ = some (.slice (some ⟨b, off, none⟩) l.length cap) ∧ u.cell? ⟨w.heap.size + 1, 0, none⟩ = some (.int .i64 n) ∧ u.cell? ⟨w.heap.size + 1, 1, none⟩ = some (.string t)) := HS.out u i
      refine wpAnyH_take (i := 2) (oi := { dst := some 7, op := Op.move (Operand.tmp 6), type := 4, pos := "l07_sync.go:214", after := #[{ on := 1, ground := Ground.data }, { on := 1, ground := Ground.chain }], guard := none }) (v := ?_) rfl (by kernel_rfl) (by kernel_rfl) (by kernel_rfl) (fun _ _ _ h => h) (Or.inl ⟨by rfl, ?_⟩) hHeld ?_
      rotate_left
      · rintro w ⟨z0, z1, z2⟩; go_simp; (try with_reducible rfl)
      try simp only [Act.put, List.setIfInBounds_toArray, List.set_cons_zero, List.set_cons_succ]
      refine wpAnyH_take (i := 3) (oi := { dst := some 8, op := Op.load 28 (Operand.tmp 2), type := 28, pos := "l07_sync.go:214", after := #[{ on := 2, ground := Ground.guard }], guard := some (2, true) }) (v := ?_) rfl (by kernel_rfl) (by kernel_rfl) (by kernel_rfl) (fun _ _ _ h => h) (Or.inl ⟨by rfl, ?_⟩) hHeld ?_
      rotate_left
      · rintro w ⟨z0, z1, z2⟩; go_simp; (try with_reducible rfl)
      try simp only [Act.put, List.setIfInBounds_toArray, List.set_cons_zero, List.set_cons_succ]
      refine wpAnyH_take (i := 6) (oi := { dst := some 11, op := Op.fieldAddr 48 (Operand.tmp 3) 0, type := 0, pos := "l07_sync.go:214", after := #[{ on := 2, ground := Ground.guard }], guard := some (2, true) }) (v := ?_) rfl (by kernel_rfl) (by kernel_rfl) (by kernel_rfl) (fun _ _ _ h => h) (Or.inl ⟨by rfl, ?_⟩) hHeld ?_
      rotate_left
      · rintro w ⟨z0, z1, z2⟩; go_simp; (try with_reducible rfl)
      try simp only [Act.put, List.setIfInBounds_toArray, List.set_cons_zero, List.set_cons_succ]
      refine wpAnyH_take (i := 7) (oi := { dst := some 12, op := Op.load 46 (Operand.tmp 11), type := 46, pos := "l07_sync.go:214", after := #[{ on := 6, ground := Ground.data }, { on := 2, ground := Ground.guard }], guard := some (2, true) }) (v := ?_) rfl (by kernel_rfl) (by kernel_rfl) (by kernel_rfl) (fun _ _ _ h => h) (Or.inl ⟨by rfl, ?_⟩) hHeld ?_
      rotate_left
      · rintro w ⟨z0, z1, z2⟩; go_simp; (try with_reducible rfl)
      try simp only [Act.put, List.setIfInBounds_toArray, List.set_cons_zero, List.set_cons_succ]
      refine wpAnyH_ready (rs := [4]) (by kernel_rfl) (by simp) ?_
      refine AllReadyH.cons rfl (fun K hK => ?_) AllReadyH.nil
      go_simp
      go_at_call 28
      refine (queue_any b off cap l u hl8 hz4 (Nat.lt_of_lt_of_le hb i.bel.size) (HR0.out u i.bel)).mono ?_
      rintro r7 w7 ⟨q, vq, rfl, hq⟩
      obtain ⟨g, o2, c2, hg, rfl, hR2⟩ := slice_row hq.own.slice hne
      have hb7 := hq.bel
      have hbx := hq.box
      clear hq
      go_wp2_with fail
      refine hK.out _ _ (HS.out _ (i.up hb7)) (fun _ => ?_)
      clear hK K hHeld
      try simp only [Act.put, List.setIfInBounds_toArray, List.set_cons_zero, List.set_cons_succ]
      refine rw.region_w (fun u => (InZ w (.slice (some ⟨b, off, none⟩) l.length cap) n t u) ∧ (rw.At u q #[.slice (some ⟨g, o2, none⟩) l.length c2] 69) ∧ (RowL u g o2 l)) ⟨i.up hb7, hbx, ⟨hg, hR2⟩⟩ ?_
      clear i hb7 hbx hg hR2
      rintro u ⟨i, bx, rl⟩
      have hHeld : (u.cell? ⟨w.heap.size, 0, none⟩ = some (.slice (some ⟨b, off, none⟩) l.length cap) ∧ u.cell? ⟨w.heap.size + 1, 0, none⟩ = some (.int .i64 n) ∧ u.cell? ⟨w.heap.size + 1, 1, none⟩ = some (.string t)) := HS.out u i
      refine wpAnyH_ready (rs := [5]) (by kernel_rfl) (by simp) ?_
      refine AllReadyH.cons rfl (fun K hK => ?_) AllReadyH.nil
      go_simp
      go_at_call 43
      refine (HLA.out q g o2 c2 u rl bx).mono ?_
      rintro r7 w7 ⟨rfl, hb⟩
      go_wp2_with fail
      refine hK.out _ _ (HS.out _ (i.up hb)) (fun _ => ?_)
      clear hK K hHeld
      try simp only [Act.put, List.setIfInBounds_toArray, List.set_cons_zero, List.set_cons_succ]
      refine rw.region_w (fun u => (InZ w (.slice (some ⟨b, off, none⟩) l.length cap) n t u) ∧ (rw.At u q #[.slice (some ⟨g, o2, none⟩) l.length c2] 69) ∧ (RowL u g o2 l)) ⟨i.up hb, bx.up hb, rl.up hb⟩ ?_
      clear i bx rl hb
      rintro u ⟨i, bx, rl⟩
      have hHeld : (u.cell? ⟨w.heap.size, 0, none⟩ = some (.slice (some ⟨b, off, none⟩) l.length cap) ∧ u.cell? ⟨w.heap.size + 1, 0, none⟩ = some (.int .i64 n) ∧ u.cell? ⟨w.heap.size + 1, 1, none⟩ = some (.string t)) := HS.out u i
      refine wpAnyH_take (i := 8) (oi := { dst := some 13, op := Op.binOp BinOp.eql 46 (Operand.tmp 10) (Operand.tmp 12) 46, type := 4, pos := "l07_sync.go:214", after := #[{ on := 5, ground := Ground.data }, { on := 7, ground := Ground.data }, { on := 2, ground := Ground.guard }], guard := some (2, true) }) (v := .bool false) rfl (by kernel_rfl) (by kernel_rfl) (by kernel_rfl) (fun _ _ _ h => h) (Or.inl ⟨by rfl, ?_⟩) hHeld ?_
      · rintro w ⟨z0, z1, z2⟩; go_simp; exact heq.out
      try simp only [Act.put, List.setIfInBounds_toArray, List.set_cons_zero, List.set_cons_succ]
      refine wpAnyH_take (i := 9) (oi := { dst := some 14, op := Op.pick (Operand.tmp 7) (Operand.tmp 13) (Operand.const (Value.bool false)), type := 4, pos := "l07_sync.go:214", after := #[{ on := 2, ground := Ground.data }, { on := 8, ground := Ground.data }], guard := none }) (v := .bool false) rfl (by kernel_rfl) (by kernel_rfl) (by kernel_rfl) (fun _ _ _ h => h) (Or.inl ⟨by rfl, ?_⟩) hHeld ?_
      · rintro w ⟨z0, z1, z2⟩; go_simp; (try with_reducible rfl)
      try simp only [Act.put, List.setIfInBounds_toArray, List.set_cons_zero, List.set_cons_succ]
      refine wpAnyH_take (i := 10) (oi := { dst := some 4, op := Op.assign (Operand.tmp 14), type := 4, pos := "l07_sync.go:214", after := #[{ on := 9, ground := Ground.data }, { on := 5, ground := Ground.chain }, { on := 0, ground := Ground.phase }, { on := 1, ground := Ground.phase }, { on := 2, ground := Ground.phase }, { on := 3, ground := Ground.phase }, { on := 4, ground := Ground.phase }, { on := 5, ground := Ground.phase }, { on := 6, ground := Ground.phase }, { on := 7, ground := Ground.phase }, { on := 8, ground := Ground.phase }, { on := 9, ground := Ground.phase }], guard := none }) (v := .bool false) rfl (by kernel_rfl) (by kernel_rfl) (by kernel_rfl) (fun _ _ _ h => h) (Or.inl ⟨by rfl, ?_⟩) hHeld ?_
      · rintro w ⟨z0, z1, z2⟩; go_simp; (try with_reducible rfl)
      try simp only [Act.put, List.setIfInBounds_toArray, List.set_cons_zero, List.set_cons_succ]
      refine wpAnyH_done (by kernel_rfl) ?_ _
      refine NoPanic.normal ?_
      have HB : Hid (Below w.heap.size w u) := i.bel
      clear i hHeld HS hs HLA HR0 bx rl
      go_wp2
      go_ret
      exact ⟨ret_b HF.out, HB.out⟩
  · rw [decide_eq_false s1] at hs
    have HF : Hid (false = decide (SetR l n t)) := (decide_eq_false (fun h : SetR l n t => s1 h.1)).symm
    clear s1
    have HS : Hid (∀ u, InZ w v n t u → (u.cell? ⟨w.heap.size, 0, none⟩ = some (v) ∧ u.cell? ⟨w.heap.size + 1, 0, none⟩ = some (.int .i64 n) ∧ u.cell? ⟨w.heap.size + 1, 1, none⟩ = some (.string t))) := fun u h => h.cells
    go_enter Try.func23, Try.ntmps23
    go_wp2_with fail
    refine wp_region_noPanic ?_
    refine wp_region_held_drew (S := fun u => u.cell? ⟨w.heap.size, 0, none⟩ = some (v) ∧ u.cell? ⟨w.heap.size + 1, 0, none⟩ = some (.int .i64 n) ∧ u.cell? ⟨w.heap.size + 1, 1, none⟩ = some (.string t)) (by kernel_rfl) (HS.out _ (HI.out.up (rw.up_drew _))) (fun _ => ?_)
    refine rw.region_w (fun u => InZ w v n t u) (HI.out.up (rw.up_drew _)) ?_
    clear HI
    intro u i
    have hHeld : (u.cell? ⟨w.heap.size, 0, none⟩ = some (v) ∧ u.cell? ⟨w.heap.size + 1, 0, none⟩ = some (.int .i64 n) ∧ u.cell? ⟨w.heap.size + 1, 1, none⟩ = some (.string t)) := HS.out u i
    refine wpAnyH_take (i := 0) (oi := { dst := some 5, op := Op.load 28 (Operand.tmp 2), type := 28, pos := "l07_sync.go:214", after := #[], guard := none }) (v := ?_) rfl (by kernel_rfl) (by kernel_rfl) (by kernel_rfl) (fun _ _ _ h => h) (Or.inl ⟨by rfl, ?_⟩) hHeld ?_
    rotate_left
    · rintro w ⟨z0, z1, z2⟩; go_simp; (try with_reducible rfl)
    try simp only [Act.put, List.setIfInBounds_toArray, List.set_cons_zero, List.set_cons_succ]
    refine wpAnyH_ready (rs := [1]) (by kernel_rfl) (by simp) ?_
    refine AllReadyH.cons rfl (fun K hK => ?_) AllReadyH.nil
    go_simp
    go_at_call 27
    refine (hs u i.bel).mono ?_
    rintro r7 w7 ⟨rfl, hb⟩
    go_wp2_with fail
    refine hK.out _ _ (HS.out _ (i.up hb)) (fun _ => ?_)
    clear hK K hHeld
    try simp only [Act.put, List.setIfInBounds_toArray, List.set_cons_zero, List.set_cons_succ]
    refine rw.region_w (fun u => InZ w v n t u) (i.up hb) ?_
    clear i hb
    intro u i
    have hHeld : (u.cell? ⟨w.heap.size, 0, none⟩ = some (v) ∧ u.cell? ⟨w.heap.size + 1, 0, none⟩ = some (.int .i64 n) ∧ u.cell? ⟨w.heap.size + 1, 1, none⟩ = some (.string t)) := HS.out u i
    refine wpAnyH_take (i := 2) (oi := { dst := some 7, op := Op.move (Operand.tmp 6), type := 4, pos := "l07_sync.go:214", after := #[{ on := 1, ground := Ground.data }, { on := 1, ground := Ground.chain }], guard := none }) (v := ?_) rfl (by kernel_rfl) (by kernel_rfl) (by kernel_rfl) (fun _ _ _ h => h) (Or.inl ⟨by rfl, ?_⟩) hHeld ?_
    rotate_left
    · rintro w ⟨z0, z1, z2⟩; go_simp; (try with_reducible rfl)
    try simp only [Act.put, List.setIfInBounds_toArray, List.set_cons_zero, List.set_cons_succ]
    refine wpAnyH_take (i := 3) (oi := { dst := some 8, op := Op.load 28 (Operand.tmp 2), type := 28, pos := "l07_sync.go:214", after := #[{ on := 2, ground := Ground.guard }], guard := some (2, true) }) (v := undef) rfl (by kernel_rfl) (by kernel_rfl) (by kernel_rfl) (fun _ _ _ h => h) (Or.inr ⟨by rfl, rfl⟩) hHeld ?_
    try simp only [Act.put, List.setIfInBounds_toArray, List.set_cons_zero, List.set_cons_succ]
    refine wpAnyH_take (i := 4) (oi := { dst := some 9, op := Op.call { callee := Callee.value (Operand.func 28), args := #[Operand.tmp 8], argTypes := #[28] }, type := 62, pos := "l07_sync.go:214", after := #[{ on := 3, ground := Ground.data }, { on := 2, ground := Ground.chain }, { on := 2, ground := Ground.guard }], guard := some (2, true) }) (v := undef) rfl (by kernel_rfl) (by kernel_rfl) (by kernel_rfl) (fun _ _ _ h => h) (Or.inr ⟨by rfl, rfl⟩) hHeld ?_
    try simp only [Act.put, List.setIfInBounds_toArray, List.set_cons_zero, List.set_cons_succ]
    refine wpAnyH_take (i := 5) (oi := { dst := some 10, op := Op.call { callee := Callee.value (Operand.func 43), args := #[Operand.tmp 9], argTypes := #[62] }, type := 46, pos := "l07_sync.go:214", after := #[{ on := 4, ground := Ground.data }, { on := 4, ground := Ground.chain }, { on := 2, ground := Ground.guard }], guard := some (2, true) }) (v := undef) rfl (by kernel_rfl) (by kernel_rfl) (by kernel_rfl) (fun _ _ _ h => h) (Or.inr ⟨by rfl, rfl⟩) hHeld ?_
    try simp only [Act.put, List.setIfInBounds_toArray, List.set_cons_zero, List.set_cons_succ]
    refine wpAnyH_take (i := 6) (oi := { dst := some 11, op := Op.fieldAddr 48 (Operand.tmp 3) 0, type := 0, pos := "l07_sync.go:214", after := #[{ on := 2, ground := Ground.guard }], guard := some (2, true) }) (v := undef) rfl (by kernel_rfl) (by kernel_rfl) (by kernel_rfl) (fun _ _ _ h => h) (Or.inr ⟨by rfl, rfl⟩) hHeld ?_
    try simp only [Act.put, List.setIfInBounds_toArray, List.set_cons_zero, List.set_cons_succ]
    refine wpAnyH_take (i := 7) (oi := { dst := some 12, op := Op.load 46 (Operand.tmp 11), type := 46, pos := "l07_sync.go:214", after := #[{ on := 6, ground := Ground.data }, { on := 2, ground := Ground.guard }], guard := some (2, true) }) (v := undef) rfl (by kernel_rfl) (by kernel_rfl) (by kernel_rfl) (fun _ _ _ h => h) (Or.inr ⟨by rfl, rfl⟩) hHeld ?_
    try simp only [Act.put, List.setIfInBounds_toArray, List.set_cons_zero, List.set_cons_succ]
    refine wpAnyH_take (i := 8) (oi := { dst := some 13, op := Op.binOp BinOp.eql 46 (Operand.tmp 10) (Operand.tmp 12) 46, type := 4, pos := "l07_sync.go:214", after := #[{ on := 5, ground := Ground.data }, { on := 7, ground := Ground.data }, { on := 2, ground := Ground.guard }], guard := some (2, true) }) (v := undef) rfl (by kernel_rfl) (by kernel_rfl) (by kernel_rfl) (fun _ _ _ h => h) (Or.inr ⟨by rfl, rfl⟩) hHeld ?_
    try simp only [Act.put, List.setIfInBounds_toArray, List.set_cons_zero, List.set_cons_succ]
    refine wpAnyH_take (i := 9) (oi := { dst := some 14, op := Op.pick (Operand.tmp 7) (Operand.tmp 13) (Operand.const (Value.bool false)), type := 4, pos := "l07_sync.go:214", after := #[{ on := 2, ground := Ground.data }, { on := 8, ground := Ground.data }], guard := none }) (v := .bool false) rfl (by kernel_rfl) (by kernel_rfl) (by kernel_rfl) (fun _ _ _ h => h) (Or.inl ⟨by rfl, ?_⟩) hHeld ?_
    · rintro w ⟨z0, z1, z2⟩; go_simp; (try with_reducible rfl)
    try simp only [Act.put, List.setIfInBounds_toArray, List.set_cons_zero, List.set_cons_succ]
    refine wpAnyH_take (i := 10) (oi := { dst := some 4, op := Op.assign (Operand.tmp 14), type := 4, pos := "l07_sync.go:214", after := #[{ on := 9, ground := Ground.data }, { on := 5, ground := Ground.chain }, { on := 0, ground := Ground.phase }, { on := 1, ground := Ground.phase }, { on := 2, ground := Ground.phase }, { on := 3, ground := Ground.phase }, { on := 4, ground := Ground.phase }, { on := 5, ground := Ground.phase }, { on := 6, ground := Ground.phase }, { on := 7, ground := Ground.phase }, { on := 8, ground := Ground.phase }, { on := 9, ground := Ground.phase }], guard := none }) (v := .bool false) rfl (by kernel_rfl) (by kernel_rfl) (by kernel_rfl) (fun _ _ _ h => h) (Or.inl ⟨by rfl, ?_⟩) hHeld ?_
    · rintro w ⟨z0, z1, z2⟩; go_simp; (try with_reducible rfl)
    try simp only [Act.put, List.setIfInBounds_toArray, List.set_cons_zero, List.set_cons_succ]
    refine wpAnyH_done (by kernel_rfl) ?_ _
    refine NoPanic.normal ?_
    have HB : Hid (Below w.heap.size w u) := i.bel
    clear i hHeld HS hs
    go_wp2
    go_ret
    exact ⟨ret_b HF.out, HB.out⟩
end Go.Proofs.Ytjjfdkmhoocfhab.st
