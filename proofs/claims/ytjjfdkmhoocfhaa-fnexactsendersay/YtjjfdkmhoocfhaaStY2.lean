/-
  What a sender says: the model's SenderSay. No condition.
-/
import Derived.Test.YtjjfdkmhoocfhaaStY1
import Derived.Test.YtjjfdkmhoocfhaaStR2
namespace Go.Proofs.Ytjjfdkmhoocfhaa.st
open Go.ChangeShapes Go.WideShapes Go.ChangeAt Go.RowKit
open Go.Proofs.Ytjjfdkmhoocfhaa.wi (heap_lt calls_w wp_w)
open Classical
set_option linter.unusedVariables false

set_option maxHeartbeats 4000000 in
theorem sayM_any (v : Value) (l : List Ln) (w : World) (hl : l.length ≤ maxLen) (hz : ∀ r ∈ l, r.2.size ≤ maxLen) (hv : SliceIs w v l) :
    Calls Try.prog 33 #[.agg #[v]] w fun e w' => ∃ r, e = .returned r ∧ SayV l r ∧ Below w.heap.size w w' := by
  have HI : Hid (InY w v ((w.alloc (.cells #[v] 49)).alloc (.cells #[.int .i64 0, .int .i64 0, .int .i64 0, .string ⟨#[]⟩] 26))) := InY.new
  have hs := fun u (hu : Below w.heap.size w u) => sndM_any v l u hl hz (hv.up hu)
  by_cases s1 : SndR l
  · rw [decide_eq_true s1] at hs
    have hne : l ≠ [] := fun e => by have := s1.1.1; rw [e] at this; simp at this
    obtain ⟨b, off, cap, hb, rfl, hR0⟩ := slice_row hv hne
    have hz4 : ∀ k, k < l.length → (l.getD k ln0).2.size ≤ 400 := fun k hk => (s1.2.1 k hk).2
    go_enter Try.func33, Try.ntmps33
    go_wp2_with (go_at_call 20; fail)
    refine calls_w (InY w (.slice (some ⟨b, off, none⟩) l.length cap)) HI.out ?_
    clear HI
    intro u i
    refine (hs u i.bel).mono ?_
    rintro r u1 ⟨rfl, hb1⟩
    replace i := i.up hb1
    clear hb1 hs
    have x0 := i.cell
    have hln : 0 < l.length := s1.1.1
    have hl9 : l.length ≤ 8 := s1.1.2
    have ha := hz4 0 hln
    have hbb := hz4 (l.length - 1) (by omega)
    have HV : Hid (SayV l (.agg #[.int .i64 (l.getD 0 ln0).1, .int .i64 (l.getD (l.length - 1) ln0).1, .int .i64 (alike (l.getD 0 ln0).2 (l.getD (l.length - 1) ln0).2 : Int), .string ((l.getD (l.length - 1) ln0).2.extract (alike (l.getD 0 ln0).2 (l.getD (l.length - 1) ln0).2) (l.getD (l.length - 1) ln0).2.size)])) := ⟨fun _ => rfl, fun h => absurd s1 h⟩
    have HR : Hid (∀ u, Below w.heap.size w u → (u.cell? ⟨b, off, none⟩ = some (.int .i64 (l.getD 0 ln0).1) ∧ u.cell? ⟨b, off + 1, none⟩ = some (.string (l.getD 0 ln0).2)) ∧ u.cell? ⟨b, off + (l.length - 1) * 2, none⟩ = some (.int .i64 (l.getD (l.length - 1) ln0).1) ∧ u.cell? ⟨b, off + (l.length - 1) * 2 + 1, none⟩ = some (.string (l.getD (l.length - 1) ln0).2)) := fun u hu => ⟨by simpa using (hR0.below hu hb) 0 hln, (hR0.below hu hb) (l.length - 1) (by omega)⟩
    obtain ⟨j, hj⟩ : ∃ j, j = l.length - 1 := ⟨_, rfl⟩
    have hwj : IntKind.i64.wrap ((l.length : Int) - 1) = (j : Int) := by rw [IntKind.wrap_i64]; omega
    have hji : (j : Int) < (l.length : Int) := by omega
    have h0i : 0 < l.length := by omega
    have hjn : j < l.length := by omega
    rw [← hj] at HV HR hbb
    generalize (l.getD 0 ln0).1 = a1 at *
    generalize (l.getD 0 ln0).2 = a2 at *
    generalize (l.getD j ln0).1 = b1 at *
    generalize (l.getD j ln0).2 = b2 at *
    obtain ⟨n, hn⟩ : ∃ n, n = l.length := ⟨_, rfl⟩
    rw [← hn] at i x0 hwj hji h0i hjn hl9 ⊢
    clear hR0 s1 hz4 hz hv hj hn hln hl hne
    go_wp2_with fail
    clear x0
    have HS : Hid (∀ u, InY w (.slice (some ⟨b, off, none⟩) n cap) u → (u.cell? ⟨w.heap.size, 0, none⟩ = some (.slice (some ⟨b, off, none⟩) n cap) ∧ (u.cell? ⟨b, off, none⟩ = some (.int .i64 a1) ∧ u.cell? ⟨b, off + 1, none⟩ = some (.string a2)) ∧ u.cell? ⟨b, off + j * 2, none⟩ = some (.int .i64 b1) ∧ u.cell? ⟨b, off + j * 2 + 1, none⟩ = some (.string b2))) := fun u h => ⟨h.cell, HR.out u h.bel⟩
    refine wp_region_noPanic ?_
    refine wp_region_held_drew (S := fun u => u.cell? ⟨w.heap.size, 0, none⟩ = some (.slice (some ⟨b, off, none⟩) n cap) ∧ (u.cell? ⟨b, off, none⟩ = some (.int .i64 a1) ∧ u.cell? ⟨b, off + 1, none⟩ = some (.string a2)) ∧ u.cell? ⟨b, off + j * 2, none⟩ = some (.int .i64 b1) ∧ u.cell? ⟨b, off + j * 2 + 1, none⟩ = some (.string b2)) (by kernel_rfl) (HS.out _ (i.up (rw.up_drew _))) (fun _ => ?_)
    refine rw.region_w (fun u => InY w (.slice (some ⟨b, off, none⟩) n cap) u) (i.up (rw.up_drew _)) ?_
    clear i
    intro u i
    have hHeld : (u.cell? ⟨w.heap.size, 0, none⟩ = some (.slice (some ⟨b, off, none⟩) n cap) ∧ (u.cell? ⟨b, off, none⟩ = some (.int .i64 a1) ∧ u.cell? ⟨b, off + 1, none⟩ = some (.string a2)) ∧ u.cell? ⟨b, off + j * 2, none⟩ = some (.int .i64 b1) ∧ u.cell? ⟨b, off + j * 2 + 1, none⟩ = some (.string b2)) := HS.out u i
    refine wpAnyH_take (i := 0) (oi := { dst := some 7, op := Op.fieldAddr 49 (Operand.tmp 1) 0, type := 0, pos := "l07_sync.go:81", after := #[], guard := none }) (v := ?_) rfl (by kernel_rfl) (by kernel_rfl) (by kernel_rfl) (fun _ _ _ h => h) (Or.inl ⟨by rfl, ?_⟩) hHeld ?_
    rotate_left
    · rintro w ⟨z0, ⟨z1, z2⟩, z3, z4⟩; go_simp; (try with_reducible rfl)
    try simp only [Act.put, List.setIfInBounds_toArray, List.set_cons_zero, List.set_cons_succ]
    refine wpAnyH_take (i := 1) (oi := { dst := some 8, op := Op.load 47 (Operand.tmp 7), type := 47, pos := "l07_sync.go:81", after := #[{ on := 0, ground := Ground.data }], guard := none }) (v := ?_) rfl (by kernel_rfl) (by kernel_rfl) (by kernel_rfl) (fun _ _ _ h => h) (Or.inl ⟨by rfl, ?_⟩) hHeld ?_
    rotate_left
    · rintro w ⟨z0, ⟨z1, z2⟩, z3, z4⟩; go_simp; (try with_reducible rfl)
    try simp only [Act.put, List.setIfInBounds_toArray, List.set_cons_zero, List.set_cons_succ]
    refine wpAnyH_take (i := 2) (oi := { dst := some 9, op := Op.indexAddr 47 (Operand.tmp 8) (Operand.const (Value.int IntKind.i64 0)), type := 0, pos := "l07_sync.go:81", after := #[{ on := 1, ground := Ground.data }], guard := none }) (v := ?_) rfl (by kernel_rfl) (by kernel_rfl) (by kernel_rfl) (fun _ _ _ h => h) (Or.inl ⟨by rfl, ?_⟩) hHeld ?_
    rotate_left
    · rintro w ⟨z0, ⟨z1, z2⟩, z3, z4⟩; go_simp; (try with_reducible rfl)
    try simp only [Act.put, List.setIfInBounds_toArray, List.set_cons_zero, List.set_cons_succ]
    refine wpAnyH_take (i := 3) (oi := { dst := some 10, op := Op.load 28 (Operand.tmp 9), type := 28, pos := "l07_sync.go:81", after := #[{ on := 2, ground := Ground.data }], guard := none }) (v := ?_) rfl (by kernel_rfl) (by kernel_rfl) (by kernel_rfl) (fun _ _ _ h => h) (Or.inl ⟨by rfl, ?_⟩) hHeld ?_
    rotate_left
    · rintro w ⟨z0, ⟨z1, z2⟩, z3, z4⟩; go_simp; (try with_reducible rfl)
    try simp only [Act.put, List.setIfInBounds_toArray, List.set_cons_zero, List.set_cons_succ]
    refine wpAnyH_take (i := 4) (oi := { dst := some 11, op := Op.fieldAddr 49 (Operand.tmp 1) 0, type := 0, pos := "l07_sync.go:81", after := #[], guard := none }) (v := ?_) rfl (by kernel_rfl) (by kernel_rfl) (by kernel_rfl) (fun _ _ _ h => h) (Or.inl ⟨by rfl, ?_⟩) hHeld ?_
    rotate_left
    · rintro w ⟨z0, ⟨z1, z2⟩, z3, z4⟩; go_simp; (try with_reducible rfl)
    try simp only [Act.put, List.setIfInBounds_toArray, List.set_cons_zero, List.set_cons_succ]
    refine wpAnyH_take (i := 5) (oi := { dst := some 12, op := Op.load 47 (Operand.tmp 11), type := 47, pos := "l07_sync.go:81", after := #[{ on := 4, ground := Ground.data }], guard := none }) (v := ?_) rfl (by kernel_rfl) (by kernel_rfl) (by kernel_rfl) (fun _ _ _ h => h) (Or.inl ⟨by rfl, ?_⟩) hHeld ?_
    rotate_left
    · rintro w ⟨z0, ⟨z1, z2⟩, z3, z4⟩; go_simp; (try with_reducible rfl)
    try simp only [Act.put, List.setIfInBounds_toArray, List.set_cons_zero, List.set_cons_succ]
    refine wpAnyH_take (i := 6) (oi := { dst := some 13, op := Op.fieldAddr 49 (Operand.tmp 1) 0, type := 0, pos := "l07_sync.go:81", after := #[], guard := none }) (v := ?_) rfl (by kernel_rfl) (by kernel_rfl) (by kernel_rfl) (fun _ _ _ h => h) (Or.inl ⟨by rfl, ?_⟩) hHeld ?_
    rotate_left
    · rintro w ⟨z0, ⟨z1, z2⟩, z3, z4⟩; go_simp; (try with_reducible rfl)
    try simp only [Act.put, List.setIfInBounds_toArray, List.set_cons_zero, List.set_cons_succ]
    refine wpAnyH_take (i := 7) (oi := { dst := some 14, op := Op.load 47 (Operand.tmp 13), type := 47, pos := "l07_sync.go:81", after := #[{ on := 6, ground := Ground.data }], guard := none }) (v := ?_) rfl (by kernel_rfl) (by kernel_rfl) (by kernel_rfl) (fun _ _ _ h => h) (Or.inl ⟨by rfl, ?_⟩) hHeld ?_
    rotate_left
    · rintro w ⟨z0, ⟨z1, z2⟩, z3, z4⟩; go_simp; (try with_reducible rfl)
    try simp only [Act.put, List.setIfInBounds_toArray, List.set_cons_zero, List.set_cons_succ]
    refine wpAnyH_take (i := 8) (oi := { dst := some 15, op := Op.call { callee := Callee.builtin Builtin.len, args := #[Operand.tmp 14], argTypes := #[47] }, type := 3, pos := "l07_sync.go:81", after := #[{ on := 7, ground := Ground.data }], guard := none }) (v := ?_) rfl (by kernel_rfl) (by kernel_rfl) (by kernel_rfl) (fun _ _ _ h => h) (Or.inl ⟨by rfl, ?_⟩) hHeld ?_
    rotate_left
    · rintro w ⟨z0, ⟨z1, z2⟩, z3, z4⟩; go_simp; (try with_reducible rfl)
    try simp only [Act.put, List.setIfInBounds_toArray, List.set_cons_zero, List.set_cons_succ]
    refine wpAnyH_take (i := 9) (oi := { dst := some 16, op := Op.binOp BinOp.sub 3 (Operand.tmp 15) (Operand.const (Value.int IntKind.i64 1)) 3, type := 3, pos := "l07_sync.go:81", after := #[{ on := 8, ground := Ground.data }], guard := none }) (v := .int .i64 (j : Int)) rfl (by kernel_rfl) (by kernel_rfl) (by kernel_rfl) (fun _ _ _ h => h) (Or.inl ⟨by rfl, ?_⟩) hHeld ?_
    · rintro w ⟨z0, ⟨z1, z2⟩, z3, z4⟩; go_simp; (try with_reducible rfl)
    try simp only [Act.put, List.setIfInBounds_toArray, List.set_cons_zero, List.set_cons_succ]
    refine wpAnyH_take (i := 10) (oi := { dst := some 17, op := Op.indexAddr 47 (Operand.tmp 12) (Operand.tmp 16), type := 0, pos := "l07_sync.go:81", after := #[{ on := 5, ground := Ground.data }, { on := 9, ground := Ground.data }], guard := none }) (v := ?_) rfl (by kernel_rfl) (by kernel_rfl) (by kernel_rfl) (fun _ _ _ h => h) (Or.inl ⟨by rfl, ?_⟩) hHeld ?_
    rotate_left
    · rintro w ⟨z0, ⟨z1, z2⟩, z3, z4⟩; go_simp; (try with_reducible rfl)
    try simp only [Act.put, List.setIfInBounds_toArray, List.set_cons_zero, List.set_cons_succ]
    refine wpAnyH_take (i := 11) (oi := { dst := some 18, op := Op.load 28 (Operand.tmp 17), type := 28, pos := "l07_sync.go:81", after := #[{ on := 10, ground := Ground.data }], guard := none }) (v := ?_) rfl (by kernel_rfl) (by kernel_rfl) (by kernel_rfl) (fun _ _ _ h => h) (Or.inl ⟨by rfl, ?_⟩) hHeld ?_
    rotate_left
    · rintro w ⟨z0, ⟨z1, z2⟩, z3, z4⟩; go_simp; (try with_reducible rfl)
    try simp only [Act.put, List.setIfInBounds_toArray, List.set_cons_zero, List.set_cons_succ]
    refine wpAnyH_ready (rs := [12]) (by kernel_rfl) (by simp) ?_
    refine AllReadyH.cons rfl (fun K hK => ?_) AllReadyH.nil
    go_simp
    go_at_call 36
    refine (deltaM_any a1 a2 b1 b2 u (Nat.le_trans ha (by decide)) (Nat.le_trans hbb (by decide))).mono ?_
    rintro r7 w7 ⟨rfl, hb⟩
    go_wp2_with fail
    refine hK.out _ _ (HS.out _ (i.up hb)) (fun _ => ?_)
    clear hK K hHeld
    try simp only [Act.put, List.setIfInBounds_toArray, List.set_cons_zero, List.set_cons_succ]
    refine rw.region_w (fun u => InY w (.slice (some ⟨b, off, none⟩) n cap) u) (i.up hb) ?_
    clear i hb
    intro u i
    have hHeld : (u.cell? ⟨w.heap.size, 0, none⟩ = some (.slice (some ⟨b, off, none⟩) n cap) ∧ (u.cell? ⟨b, off, none⟩ = some (.int .i64 a1) ∧ u.cell? ⟨b, off + 1, none⟩ = some (.string a2)) ∧ u.cell? ⟨b, off + j * 2, none⟩ = some (.int .i64 b1) ∧ u.cell? ⟨b, off + j * 2 + 1, none⟩ = some (.string b2)) := HS.out u i
    refine wpAnyH_ready (rs := [13]) (by kernel_rfl) (by simp) ?_
    refine AllReadyH.cons rfl (fun K hK => ?_) AllReadyH.nil
    obtain ⟨z, hz⟩ : ∃ z : Int, z = (alike a2 b2 : Int) := ⟨_, rfl⟩
    obtain ⟨T, hT⟩ : ∃ T, T = b2.extract (alike a2 b2) b2.size := ⟨_, rfl⟩
    have HV2 : Hid (SayV l (.agg #[.int .i64 a1, .int .i64 b1, .int .i64 z, .string T])) := by rw [hz, hT]; exact HV.out
    rw [← hz, ← hT]
    clear hz hT HV
    have HF : Hid (FinY w u) := i.fin
    have HS9 : Hid ((fill u (w.heap.size + 1) (.int .i64 a1) (.int .i64 b1) (.int .i64 z) (.string T)).cell? ⟨w.heap.size, 0, none⟩ = some (.slice (some ⟨b, off, none⟩) n cap) ∧ ((fill u (w.heap.size + 1) (.int .i64 a1) (.int .i64 b1) (.int .i64 z) (.string T)).cell? ⟨b, off, none⟩ = some (.int .i64 a1) ∧ (fill u (w.heap.size + 1) (.int .i64 a1) (.int .i64 b1) (.int .i64 z) (.string T)).cell? ⟨b, off + 1, none⟩ = some (.string a2)) ∧ (fill u (w.heap.size + 1) (.int .i64 a1) (.int .i64 b1) (.int .i64 z) (.string T)).cell? ⟨b, off + j * 2, none⟩ = some (.int .i64 b1) ∧ (fill u (w.heap.size + 1) (.int .i64 a1) (.int .i64 b1) (.int .i64 z) (.string T)).cell? ⟨b, off + j * 2 + 1, none⟩ = some (.string b2)) := ⟨((((i.arg.far (by omega) 0 _).far (by omega) 1 _).far (by omega) 2 _).far (by omega) 3 _).cell 0, HR.out _ (i.fin (.int .i64 a1) (.int .i64 b1) (.int .i64 z) (.string T)).2⟩
    obtain ⟨r0, r1, r2, r3, r4⟩ := i.rcells
    clear i hHeld
    go_simp
    refine hK.out _ _ HS9.out (fun _ => ?_)
    clear hK K HS9 r0 r1 r2 r3 r4
    try simp only [Act.put, List.setIfInBounds_toArray, List.set_cons_zero, List.set_cons_succ]
    refine wpAnyH_done (by kernel_rfl) ?_ _
    refine NoPanic.normal ?_
    clear HS HR
    obtain ⟨d1, d2⟩ := HF.out (.int .i64 a1) (.int .i64 b1) (.int .i64 z) (.string T)
    go_wp2
    exact bodyPost_ret (results_cell_row Try.results33 _ _ (w.heap.size + 1) _ #[.int .i64 a1, .int .i64 b1, .int .i64 z, .string T] _ _ rfl d1 Try.underlying26 rfl infoU) rfl ⟨_, rfl, HV2.out, d2⟩
  · rw [decide_eq_false s1] at hs
    have HV : Hid (SayV l (.agg #[.int .i64 0, .int .i64 0, .int .i64 0, .string ⟨#[]⟩])) := ⟨fun h => absurd h s1, fun _ => rfl⟩
    clear s1
    go_enter Try.func33, Try.ntmps33
    go_wp2_with (go_at_call 20; fail)
    refine calls_w (InY w v) HI.out ?_
    clear HI
    intro u i
    refine (hs u i.bel).mono ?_
    rintro r u1 ⟨rfl, hb⟩
    replace i := i.up hb
    clear hb hs
    obtain ⟨r0, r1, r2, r3, r4⟩ := i.rcells
    have HD : Hid _ := i.fin (.int .i64 0) (.int .i64 0) (.int .i64 0) (.string ⟨#[]⟩)
    clear i hv
    go_wp2
    obtain ⟨d1, d2⟩ := HD.out
    exact bodyPost_ret (results_cell_row Try.results33 _ _ (w.heap.size + 1) _ #[.int .i64 0, .int .i64 0, .int .i64 0, .string ⟨#[]⟩] _ _ rfl d1 Try.underlying26 rfl infoU) rfl ⟨_, rfl, HV.out, d2⟩
end Go.Proofs.Ytjjfdkmhoocfhaa.st
