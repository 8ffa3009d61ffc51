/-
  The program's Verify: it tells just what the plain condition tells; no old block turns. Condition: the table of the rounds' numbers lies in its variable.
-/
import Derived.Test.YtcfekhahibklfaaDoorLgRe
import Derived.Test.YtcfekhahibklfaaDoorLgA
import Derived.Test.YtcfekhahibklfaaDoorLogV
import Derived.Deep.RegionHeld3
namespace Go.Proofs.YtcfekhahibklfaaDoor.li
open Go.ChangeShapes Go.WideShapes Go.ChangeAt Go.RowKit
open Go.Proofs.YtcfekhahibklfaaDoor.wi (heap_lt calls_w wp_w)
open Go.Proofs.YtcfekhahibklfaaDoor.lg Go.Proofs.YtcfekhahibklfaaDoor.ss
open Go.Proofs.YtcfekhahibklfaaDoor.lm (ReadPost logR_size logR_yes logR_form VerPost InV own_slice)
open Go.Proofs.YtcfekhahibklfaaDoor.sh (macB macB_size Tab Tab.up Tab.below Tab.lt)
set_option linter.unusedVariables false
set_option linter.unusedSimpArgs false

theorem infoR3 : (Tryd.prog.info? 36).map (·.size) = some 3 := by kernel_rfl
/-- the anchor's block, and the block of what was read -/
structure InW (w : World) (n : Int) (c : ByteArray) (g : Nat) (v : Value) (i k : Int) (l : List ByteArray) (u : World) : Prop where
  anc : InV w n c u
  blk : u.heap[g]? = some (.cells #[v, .int .i64 i, .int .i64 k] 36 (0, 0))
  sl : SliceIs u v l
theorem InW.up {w u u' : World} {n : Int} {c : ByteArray} {g : Nat} {v : Value} {i k : Int} {l : List ByteArray} (h : InW w n c g v i k l u) (hb : Below u.heap.size u u') : InW w n c g v i k l u' := ⟨h.anc.up hb, (hb.block _ (heap_lt h.blk)).trans h.blk, h.sl.up hb⟩
theorem InW.cells {w u : World} {n : Int} {c : ByteArray} {g : Nat} {v : Value} {i k : Int} {l : List ByteArray} (h : InW w n c g v i k l u) : u.cell? ⟨w.heap.size, 0, none⟩ = some (.int .i64 n) ∧ u.cell? ⟨w.heap.size, 1, none⟩ = some (.string c) ∧ u.cell? ⟨g, 0, none⟩ = some v ∧ u.cell? ⟨g, 1, none⟩ = some (.int .i64 i) ∧ u.cell? ⟨g, 2, none⟩ = some (.int .i64 k) := by
  refine ⟨h.anc.cells.1, h.anc.cells.2, ?_, ?_, ?_⟩ <;> simp [World.cell?, h.blk]
theorem InW.drew {w u : World} {n : Int} {c : ByteArray} {g : Nat} {v : Value} {i k : Int} {l : List ByteArray} (h : InW w n c g v i k l u) : InW w n c g v i k l u.drew := ⟨⟨h.anc.1.drew, h.anc.2⟩, h.blk, h.sl⟩
set_option maxRecDepth 20000 in
set_option maxHeartbeats 8000000 in
theorem verI_any (key text c : ByteArray) (n : Int) (w : World) (hk : key.size ≤ maxLen) (ht : text.size ≤ maxLen) (hc : c.size ≤ maxLen) (hT : Tab w) :
    Calls Tryd.prog 25 #[.string key, .agg #[.int .i64 n, .string c], .string text] w (VerPost w key n c text) := by
  have hI := InV.start w n c
  obtain ⟨l, i, k, hL⟩ : ∃ l i k, logR macB key text = (l, i, k) := ⟨_, _, _, rfl⟩
  have HR : Hid (∀ u, Below w.heap.size w u → Calls Tryd.prog 14 #[.string key, .string text] u (ReadPost u (l, i, k))) := fun u hu => by
    have := readI_any key text u hk ht (hT.up hu)
    rwa [hL] at this
  have HT : Hid (∀ u, Below w.heap.size w u → Tab u) := fun u hu => hT.up hu
  have hk0 : 0 ≤ k ∧ (k = 0 → (KeyL key ∧ text.size ≤ 8000) ∧ readL macB key text = (l, i)) ∧ (k ≠ 0 → ¬ (KeyL key ∧ text.size ≤ 8000)) := by
    by_cases h0 : 8000 < key.size ∨ 8000 < text.size
    · rw [logR_size h0] at hL
      obtain ⟨rfl, rfl, rfl⟩ : [] = l ∧ 0 = i ∧ 2 = k := by simpa using hL
      exact ⟨by omega, fun h => by omega, fun _ h => by have := h.1.2; omega⟩
    · by_cases h : KeyL key
      · rw [logR_yes h (by omega)] at hL
        simp only [Prod.mk.injEq] at hL
        obtain ⟨h1, h2, rfl⟩ := hL
        exact ⟨by omega, fun _ => ⟨⟨h, by omega⟩, Prod.ext h1 h2⟩, fun h => absurd rfl h⟩
      · rw [logR_form h0 h] at hL
        obtain ⟨rfl, rfl, rfl⟩ : [] = l ∧ 0 = i ∧ 1 = k := by simpa using hL
        exact ⟨by omega, fun h => by omega, fun _ h2 => h h2.1⟩
  obtain ⟨hk1, hk2, hk3⟩ := hk0
  clear hL hT
  unfold maxLen at hc
  go_enter Tryd.func25, Tryd.ntmps25
  go_wp2_with (go_at_call 14; fail)
  refine calls_w (InV w n c) hI ?_
  clear hI
  intro u hI
  refine (HR.out u hI.1).mono ?_
  rintro r w1 ⟨v, rfl, hb1, hown⟩
  replace hI := hI.up hb1
  have hsl := own_slice hown
  obtain ⟨p, cap, rfl⟩ := hsl.shape
  have hcap : l.length ≤ cap ∧ cap ≤ maxLen := by
    rcases hown.2 with ⟨h1, h2⟩ | ⟨g, cap2, cur, h1, _, _, h3, h4, _⟩
    · simp only [Value.slice.injEq] at h1
      obtain ⟨_, h5, rfl⟩ := h1
      exact ⟨by omega, by unfold maxLen; omega⟩
    · simp only [Value.slice.injEq] at h1
      obtain ⟨_, _, rfl⟩ := h1
      exact ⟨h3, h4⟩
  have hW : InW w n c w1.heap.size (.slice p l.length cap) i k l (w1.alloc (.cells #[.slice p l.length cap, .int .i64 i, .int .i64 k] 36)) := by
    have hb : Below w1.heap.size w1 (w1.alloc (.cells #[.slice p l.length cap, .int .i64 i, .int .i64 k] 36)) := (Below.refl _ _).alloc (Nat.le_refl _) _
    exact ⟨hI.up hb, heap_alloc_new _ _, hsl.up hb⟩
  clear hI hsl hown hb1 HR
  by_cases hk0 : k = 0
  · subst hk0
    obtain ⟨hkt, hL2⟩ := hk2 rfl
    clear hk2 hk3 hk1
    have h60 : l.length ≤ 60 := by
      have := (readF_right (mac := macB) (key := key) (text := text) 60 (chainS macB key) 0).1
      have e : (readF macB key text 60 (chainS macB key) 0).1 = l := by
        show (readL macB key text).1 = l
        rw [hL2]
      rwa [e] at this
    have hrl : ∀ r ∈ l, r.size ≤ 200 := by
      have := (readF_right (mac := macB) (key := key) (text := text) 60 (chainS macB key) 0).2
      have e : (readF macB key text 60 (chainS macB key) 0).1 = l := by
        show (readL macB key text).1 = l
        rw [hL2]
      rwa [e] at this
    by_cases hn : 0 ≤ n ∧ n ≤ (l.length : Int)
    · obtain ⟨m, rfl⟩ : ∃ m : Nat, n = (m : Int) := ⟨n.toNat, by omega⟩
      have hm : m ≤ l.length := by omega
      have HWi : Hid (∀ u, Calls Tryd.prog 53 #[.int .i64 (m : Int), .int .i64 0, .int .i64 (l.length : Int)] u fun r w' => r = .returned (.bool true) ∧ w' = u) := fun u => by
        have := withinI_any (m : Int) 0 (l.length : Int) u
        rwa [decide_eq_true hn] at this
      have HF : Hid (∀ u, Calls Tryd.prog 55 #[.slice p l.length cap, .int .i64 (m : Int)] u fun e w' => e = .returned (.slice p m m) ∧ w' = u) := fun u => firstOf_any p l.length cap m u (by omega) hcap.2
      have HSl : Hid (SliceIs (w1.alloc (.cells #[.slice p l.length cap, .int .i64 i, .int .i64 0] 36)) (.slice p l.length cap) l) := hW.sl
      have HC : Hid (∀ u, InW w m c w1.heap.size (.slice p l.length cap) i 0 l u → Calls Tryd.prog 54 #[.string key, .slice p m m] u fun r w' => r = .returned (.string (chain macB key (l.take m))) ∧ Below u.heap.size u w') := fun u hu =>
        chainOf_any key _ (l.take m) u hkt.1 (fun r hr => hrl r (List.mem_of_mem_take hr)) (by rw [List.length_take]; omega) (HT.out u hu.anc.1) (slice_take hu.sl hm)
      clear HSl HT
      by_cases hce : c = chain macB key (l.take m)
      · have q := beqT hce
        have HV : Hid (VerL macB key (m : Int) c text) := ⟨hkt, by omega, by rw [hL2]; show (m : Int) ≤ (l.length : Int); omega, by rw [hL2]; show chain macB key (l.take ((m : Int)).toNat) = c; rw [Int.toNat_natCast, ← hce]⟩
        generalize chain macB key (l.take m) = y at *
        clear hce hL2 hkt
        have hcs := hW.cells
        obtain ⟨x0, x1, x2, x3, x4⟩ := hcs
        go_wp2_with (go_at_call 53; fail)
        refine calls_w (InW w m c w1.heap.size (.slice p l.length cap) i 0 l) hW ?_
        clear hW x0 x1 x2 x3 x4
        intro u2 hW2
        refine (HWi.out u2).mono ?_
        rintro r u3 ⟨rfl, hu3⟩
        obtain rfl := hu3.symm
        go_wp2_with fail
        have hW3 := hW2.drew
        refine wp_region_noPanic ?_
        refine wp_region_held_drew (S := fun u => u.cell? ⟨w.heap.size, 0, none⟩ = some (.int .i64 (m : Int)) ∧ u.cell? ⟨w.heap.size, 1, none⟩ = some (.string c) ∧ u.cell? ⟨w1.heap.size, 0, none⟩ = some (.slice p l.length cap) ∧ u.cell? ⟨w1.heap.size, 1, none⟩ = some (.int .i64 i) ∧ u.cell? ⟨w1.heap.size, 2, none⟩ = some (.int .i64 0)) (by kernel_rfl) hW3.cells (fun hHeld => ?_)
        refine wpAnyH_take (i := 0) (oi := { dst := some 23, op := Op.fieldAddr 41 (Operand.tmp 4) 1, type := 0, pos := "l05_log.go:211", after := #[], guard := none }) (v := ?_) rfl (by kernel_rfl) (by kernel_rfl) (by kernel_rfl) (fun _ _ _ h => h) (Or.inl ⟨by rfl, ?_⟩) hHeld ?_
        rotate_left
        · rintro w ⟨z0, z1, z2, z3, z4⟩; go_simp; (try with_reducible rfl)
        try simp only [Act.put, List.setIfInBounds_toArray, List.set_cons_zero, List.set_cons_succ]
        refine wpAnyH_take (i := 1) (oi := { dst := some 24, op := Op.load 9 (Operand.tmp 23), type := 9, pos := "l05_log.go:211", after := #[{ on := 0, ground := Ground.data }], guard := none }) (v := ?_) rfl (by kernel_rfl) (by kernel_rfl) (by kernel_rfl) (fun _ _ _ h => h) (Or.inl ⟨by rfl, ?_⟩) hHeld ?_
        rotate_left
        · rintro w ⟨z0, z1, z2, z3, z4⟩; go_simp; (try with_reducible rfl)
        try simp only [Act.put, List.setIfInBounds_toArray, List.set_cons_zero, List.set_cons_succ]
        refine wpAnyH_take (i := 2) (oi := { dst := some 25, op := Op.move (Operand.tmp 0), type := 9, pos := "l05_log.go:211", after := #[], guard := none }) (v := ?_) rfl (by kernel_rfl) (by kernel_rfl) (by kernel_rfl) (fun _ _ _ h => h) (Or.inl ⟨by rfl, ?_⟩) hHeld ?_
        rotate_left
        · rintro w ⟨z0, z1, z2, z3, z4⟩; go_simp; (try with_reducible rfl)
        try simp only [Act.put, List.setIfInBounds_toArray, List.set_cons_zero, List.set_cons_succ]
        refine wpAnyH_take (i := 3) (oi := { dst := some 26, op := Op.fieldAddr 36 (Operand.tmp 7) 0, type := 0, pos := "l05_log.go:211", after := #[], guard := none }) (v := ?_) rfl (by kernel_rfl) (by kernel_rfl) (by kernel_rfl) (fun _ _ _ h => h) (Or.inl ⟨by rfl, ?_⟩) hHeld ?_
        rotate_left
        · rintro w ⟨z0, z1, z2, z3, z4⟩; go_simp; (try with_reducible rfl)
        try simp only [Act.put, List.setIfInBounds_toArray, List.set_cons_zero, List.set_cons_succ]
        refine wpAnyH_take (i := 4) (oi := { dst := some 27, op := Op.load 23 (Operand.tmp 26), type := 23, pos := "l05_log.go:211", after := #[{ on := 3, ground := Ground.data }], guard := none }) (v := ?_) rfl (by kernel_rfl) (by kernel_rfl) (by kernel_rfl) (fun _ _ _ h => h) (Or.inl ⟨by rfl, ?_⟩) hHeld ?_
        rotate_left
        · rintro w ⟨z0, z1, z2, z3, z4⟩; go_simp; (try with_reducible rfl)
        try simp only [Act.put, List.setIfInBounds_toArray, List.set_cons_zero, List.set_cons_succ]
        refine wpAnyH_take (i := 5) (oi := { dst := some 28, op := Op.fieldAddr 41 (Operand.tmp 4) 0, type := 0, pos := "l05_log.go:211", after := #[], guard := none }) (v := ?_) rfl (by kernel_rfl) (by kernel_rfl) (by kernel_rfl) (fun _ _ _ h => h) (Or.inl ⟨by rfl, ?_⟩) hHeld ?_
        rotate_left
        · rintro w ⟨z0, z1, z2, z3, z4⟩; go_simp; (try with_reducible rfl)
        try simp only [Act.put, List.setIfInBounds_toArray, List.set_cons_zero, List.set_cons_succ]
        refine wpAnyH_take (i := 6) (oi := { dst := some 29, op := Op.load 2 (Operand.tmp 28), type := 2, pos := "l05_log.go:211", after := #[{ on := 5, ground := Ground.data }], guard := none }) (v := ?_) rfl (by kernel_rfl) (by kernel_rfl) (by kernel_rfl) (fun _ _ _ h => h) (Or.inl ⟨by rfl, ?_⟩) hHeld ?_
        rotate_left
        · rintro w ⟨z0, z1, z2, z3, z4⟩; go_simp; (try with_reducible rfl)
        try simp only [Act.put, List.setIfInBounds_toArray, List.set_cons_zero, List.set_cons_succ]
        refine wpAnyH_ready (rs := [7]) (by kernel_rfl) (by simp) ?_
        refine AllReadyH.cons rfl (fun K hK => ?_) AllReadyH.nil
        go_simp
        go_at_call 55
        refine (HF.out _).mono ?_
        rintro e1 u1 ⟨rfl, hu1⟩
        obtain rfl := hu1.symm
        go_wp2_with fail
        refine hK.out _ _ hW3.cells (fun hHeld => ?_)
        clear hK K
        try simp only [Act.put, List.setIfInBounds_toArray, List.set_cons_zero, List.set_cons_succ]
        refine wpAnyH_ready (rs := [8]) (by kernel_rfl) (by simp) ?_
        refine AllReadyH.cons rfl (fun K hK => ?_) AllReadyH.nil
        go_simp
        go_at_call 54
        refine (HC.out _ hW3).mono ?_
        rintro e2 u2 ⟨rfl, hb2⟩
        have hW2 := hW3.up hb2
        go_wp2_with fail
        refine hK.out _ _ hW2.cells (fun hHeld => ?_)
        clear hK K
        try simp only [Act.put, List.setIfInBounds_toArray, List.set_cons_zero, List.set_cons_succ]
        refine wpAnyH_take (i := 9) (oi := { dst := some 32, op := Op.binOp BinOp.eql 9 (Operand.tmp 24) (Operand.tmp 31) 9, type := 4, pos := "l05_log.go:211", after := #[{ on := 1, ground := Ground.data }, { on := 8, ground := Ground.data }], guard := none }) (v := .bool true) rfl (by kernel_rfl) (by kernel_rfl) (by kernel_rfl) (fun _ _ _ h => h) (Or.inl ⟨by rfl, ?_⟩) hHeld ?_
        · rintro w ⟨z0, z1, z2, z3, z4⟩; go_simp; (try with_reducible rfl)
        try simp only [Act.put, List.setIfInBounds_toArray, List.set_cons_zero, List.set_cons_succ]
        refine wpAnyH_take (i := 10) (oi := { dst := some 6, op := Op.assign (Operand.tmp 32), type := 4, pos := "l05_log.go:211", after := #[{ on := 9, ground := Ground.data }, { on := 8, ground := Ground.chain }, { on := 0, ground := Ground.phase }, { on := 1, ground := Ground.phase }, { on := 2, ground := Ground.phase }, { on := 3, ground := Ground.phase }, { on := 4, ground := Ground.phase }, { on := 5, ground := Ground.phase }, { on := 6, ground := Ground.phase }, { on := 7, ground := Ground.phase }, { on := 8, ground := Ground.phase }, { on := 9, ground := Ground.phase }], guard := none }) (v := .bool true) rfl (by kernel_rfl) (by kernel_rfl) (by kernel_rfl) (fun _ _ _ h => h) (Or.inl ⟨by rfl, ?_⟩) hHeld ?_
        · rintro w ⟨z0, z1, z2, z3, z4⟩; go_simp; (try with_reducible rfl)
        try simp only [Act.put, List.setIfInBounds_toArray, List.set_cons_zero, List.set_cons_succ]
        refine wpAnyH_done (by kernel_rfl) ?_ _
        refine NoPanic.normal ?_
        go_wp2
        go_ret
        exact ⟨true, rfl, ⟨fun _ => HV.out, fun _ => rfl⟩, hW2.anc.1⟩
      · have q := beqF hce
        have HV : Hid (¬ VerL macB key (m : Int) c text) := fun x => absurd (by have := x.2.2.2; rw [hL2] at this; simpa using this.symm) hce
        generalize chain macB key (l.take m) = y at *
        clear hce hL2 hkt
        have hcs := hW.cells
        obtain ⟨x0, x1, x2, x3, x4⟩ := hcs
        go_wp2_with (go_at_call 53; fail)
        refine calls_w (InW w m c w1.heap.size (.slice p l.length cap) i 0 l) hW ?_
        clear hW x0 x1 x2 x3 x4
        intro u2 hW2
        refine (HWi.out u2).mono ?_
        rintro r u3 ⟨rfl, hu3⟩
        obtain rfl := hu3.symm
        go_wp2_with fail
        have hW3 := hW2.drew
        refine wp_region_noPanic ?_
        refine wp_region_held_drew (S := fun u => u.cell? ⟨w.heap.size, 0, none⟩ = some (.int .i64 (m : Int)) ∧ u.cell? ⟨w.heap.size, 1, none⟩ = some (.string c) ∧ u.cell? ⟨w1.heap.size, 0, none⟩ = some (.slice p l.length cap) ∧ u.cell? ⟨w1.heap.size, 1, none⟩ = some (.int .i64 i) ∧ u.cell? ⟨w1.heap.size, 2, none⟩ = some (.int .i64 0)) (by kernel_rfl) hW3.cells (fun hHeld => ?_)
        refine wpAnyH_take (i := 0) (oi := { dst := some 23, op := Op.fieldAddr 41 (Operand.tmp 4) 1, type := 0, pos := "l05_log.go:211", after := #[], guard := none }) (v := ?_) rfl (by kernel_rfl) (by kernel_rfl) (by kernel_rfl) (fun _ _ _ h => h) (Or.inl ⟨by rfl, ?_⟩) hHeld ?_
        rotate_left
        · rintro w ⟨z0, z1, z2, z3, z4⟩; go_simp; (try with_reducible rfl)
        try simp only [Act.put, List.setIfInBounds_toArray, List.set_cons_zero, List.set_cons_succ]
        refine wpAnyH_take (i := 1) (oi := { dst := some 24, op := Op.load 9 (Operand.tmp 23), type := 9, pos := "l05_log.go:211", after := #[{ on := 0, ground := Ground.data }], guard := none }) (v := ?_) rfl (by kernel_rfl) (by kernel_rfl) (by kernel_rfl) (fun _ _ _ h => h) (Or.inl ⟨by rfl, ?_⟩) hHeld ?_
        rotate_left
        · rintro w ⟨z0, z1, z2, z3, z4⟩; go_simp; (try with_reducible rfl)
        try simp only [Act.put, List.setIfInBounds_toArray, List.set_cons_zero, List.set_cons_succ]
        refine wpAnyH_take (i := 2) (oi := { dst := some 25, op := Op.move (Operand.tmp 0), type := 9, pos := "l05_log.go:211", after := #[], guard := none }) (v := ?_) rfl (by kernel_rfl) (by kernel_rfl) (by kernel_rfl) (fun _ _ _ h => h) (Or.inl ⟨by rfl, ?_⟩) hHeld ?_
        rotate_left
        · rintro w ⟨z0, z1, z2, z3, z4⟩; go_simp; (try with_reducible rfl)
        try simp only [Act.put, List.setIfInBounds_toArray, List.set_cons_zero, List.set_cons_succ]
        refine wpAnyH_take (i := 3) (oi := { dst := some 26, op := Op.fieldAddr 36 (Operand.tmp 7) 0, type := 0, pos := "l05_log.go:211", after := #[], guard := none }) (v := ?_) rfl (by kernel_rfl) (by kernel_rfl) (by kernel_rfl) (fun _ _ _ h => h) (Or.inl ⟨by rfl, ?_⟩) hHeld ?_
        rotate_left
        · rintro w ⟨z0, z1, z2, z3, z4⟩; go_simp; (try with_reducible rfl)
        try simp only [Act.put, List.setIfInBounds_toArray, List.set_cons_zero, List.set_cons_succ]
        refine wpAnyH_take (i := 4) (oi := { dst := some 27, op := Op.load 23 (Operand.tmp 26), type := 23, pos := "l05_log.go:211", after := #[{ on := 3, ground := Ground.data }], guard := none }) (v := ?_) rfl (by kernel_rfl) (by kernel_rfl) (by kernel_rfl) (fun _ _ _ h => h) (Or.inl ⟨by rfl, ?_⟩) hHeld ?_
        rotate_left
        · rintro w ⟨z0, z1, z2, z3, z4⟩; go_simp; (try with_reducible rfl)
        try simp only [Act.put, List.setIfInBounds_toArray, List.set_cons_zero, List.set_cons_succ]
        refine wpAnyH_take (i := 5) (oi := { dst := some 28, op := Op.fieldAddr 41 (Operand.tmp 4) 0, type := 0, pos := "l05_log.go:211", after := #[], guard := none }) (v := ?_) rfl (by kernel_rfl) (by kernel_rfl) (by kernel_rfl) (fun _ _ _ h => h) (Or.inl ⟨by rfl, ?_⟩) hHeld ?_
        rotate_left
        · rintro w ⟨z0, z1, z2, z3, z4⟩; go_simp; (try with_reducible rfl)
        try simp only [Act.put, List.setIfInBounds_toArray, List.set_cons_zero, List.set_cons_succ]
        refine wpAnyH_take (i := 6) (oi := { dst := some 29, op := Op.load 2 (Operand.tmp 28), type := 2, pos := "l05_log.go:211", after := #[{ on := 5, ground := Ground.data }], guard := none }) (v := ?_) rfl (by kernel_rfl) (by kernel_rfl) (by kernel_rfl) (fun _ _ _ h => h) (Or.inl ⟨by rfl, ?_⟩) hHeld ?_
        rotate_left
        · rintro w ⟨z0, z1, z2, z3, z4⟩; go_simp; (try with_reducible rfl)
        try simp only [Act.put, List.setIfInBounds_toArray, List.set_cons_zero, List.set_cons_succ]
        refine wpAnyH_ready (rs := [7]) (by kernel_rfl) (by simp) ?_
        refine AllReadyH.cons rfl (fun K hK => ?_) AllReadyH.nil
        go_simp
        go_at_call 55
        refine (HF.out _).mono ?_
        rintro e1 u1 ⟨rfl, hu1⟩
        obtain rfl := hu1.symm
        go_wp2_with fail
        refine hK.out _ _ hW3.cells (fun hHeld => ?_)
        clear hK K
        try simp only [Act.put, List.setIfInBounds_toArray, List.set_cons_zero, List.set_cons_succ]
        refine wpAnyH_ready (rs := [8]) (by kernel_rfl) (by simp) ?_
        refine AllReadyH.cons rfl (fun K hK => ?_) AllReadyH.nil
        go_simp
        go_at_call 54
        refine (HC.out _ hW3).mono ?_
        rintro e2 u2 ⟨rfl, hb2⟩
        have hW2 := hW3.up hb2
        go_wp2_with fail
        refine hK.out _ _ hW2.cells (fun hHeld => ?_)
        clear hK K
        try simp only [Act.put, List.setIfInBounds_toArray, List.set_cons_zero, List.set_cons_succ]
        refine wpAnyH_take (i := 9) (oi := { dst := some 32, op := Op.binOp BinOp.eql 9 (Operand.tmp 24) (Operand.tmp 31) 9, type := 4, pos := "l05_log.go:211", after := #[{ on := 1, ground := Ground.data }, { on := 8, ground := Ground.data }], guard := none }) (v := .bool false) rfl (by kernel_rfl) (by kernel_rfl) (by kernel_rfl) (fun _ _ _ h => h) (Or.inl ⟨by rfl, ?_⟩) hHeld ?_
        · rintro w ⟨z0, z1, z2, z3, z4⟩; go_simp; (try with_reducible rfl)
        try simp only [Act.put, List.setIfInBounds_toArray, List.set_cons_zero, List.set_cons_succ]
        refine wpAnyH_take (i := 10) (oi := { dst := some 6, op := Op.assign (Operand.tmp 32), type := 4, pos := "l05_log.go:211", after := #[{ on := 9, ground := Ground.data }, { on := 8, ground := Ground.chain }, { on := 0, ground := Ground.phase }, { on := 1, ground := Ground.phase }, { on := 2, ground := Ground.phase }, { on := 3, ground := Ground.phase }, { on := 4, ground := Ground.phase }, { on := 5, ground := Ground.phase }, { on := 6, ground := Ground.phase }, { on := 7, ground := Ground.phase }, { on := 8, ground := Ground.phase }, { on := 9, ground := Ground.phase }], guard := none }) (v := .bool false) rfl (by kernel_rfl) (by kernel_rfl) (by kernel_rfl) (fun _ _ _ h => h) (Or.inl ⟨by rfl, ?_⟩) hHeld ?_
        · rintro w ⟨z0, z1, z2, z3, z4⟩; go_simp; (try with_reducible rfl)
        try simp only [Act.put, List.setIfInBounds_toArray, List.set_cons_zero, List.set_cons_succ]
        refine wpAnyH_done (by kernel_rfl) ?_ _
        refine NoPanic.normal ?_
        go_wp2
        go_ret
        exact ⟨false, rfl, ⟨fun x => by simp at x, fun x => absurd x HV.out⟩, hW2.anc.1⟩
    · have HWi : Hid (∀ u, Calls Tryd.prog 53 #[.int .i64 n, .int .i64 0, .int .i64 (l.length : Int)] u fun r w' => r = .returned (.bool false) ∧ w' = u) := fun u => by
        have := withinI_any n 0 (l.length : Int) u
        rwa [decide_eq_false hn] at this
      have HV : Hid (¬ VerL macB key n c text) := fun x => hn ⟨x.2.1.1, by have := x.2.2.1; rw [hL2] at this; exact this⟩
      clear hL2 hkt HT hn
      obtain ⟨x0, x1, x2, x3, x4⟩ := hW.cells
      go_wp2_with (go_at_call 53; fail)
      refine calls_w (InW w n c w1.heap.size (.slice p l.length cap) i 0 l) hW ?_
      clear hW x0 x1 x2 x3 x4
      intro u2 hW2
      refine (HWi.out u2).mono ?_
      rintro r u3 ⟨rfl, hu3⟩
      obtain rfl := hu3.symm
      go_wp2
      go_ret
      exact ⟨false, rfl, ⟨fun x => by simp at x, fun x => absurd x HV.out⟩, hW2.anc.1⟩
  · have HV : Hid (¬ VerL macB key n c text) := fun x => hk3 hk0 x.1
    have d : (k != 0) = true := by simp [hk0]
    clear hk2 hk3 HT
    obtain ⟨x0, x1, x2, x3, x4⟩ := hW.cells
    go_wp2
    go_ret
    exact ⟨false, rfl, ⟨fun x => by simp at x, fun x => absurd x HV.out⟩, hW.anc.1⟩
end Go.Proofs.YtcfekhahibklfaaDoor.li
