/-
  The program's LogText: the log's text, or nothing; no old block turns. Condition: the table of the rounds' numbers lies in its variable.
-/
import Derived.Test.YtcfekhahibklfaaDoorLgA
import Derived.Test.YtcfekhahibklfaaDoorMg13
import Derived.Test.YtcfekhahibklfaaDoorLgGw
import Derived.Test.YtcfekhahibklfaaDoorMg7
namespace Go.Proofs.YtcfekhahibklfaaDoor.li
open Go.ChangeShapes Go.WideShapes Go.ChangeAt Go.RowKit Go.Shelf
open Go.Proofs.YtcfekhahibklfaaDoor.wi (heap_lt calls_w wp_w)
open Go.Proofs.YtcfekhahibklfaaDoor.lg Go.Proofs.YtcfekhahibklfaaDoor.ss
open Go.Proofs.YtcfekhahibklfaaDoor.sh (macB macB_size Tab Tab.up Tab.below Tab.lt)
open Go.Proofs.YtcfekhahibklfaaDoor.la
open Go.Proofs.YtcfekhahibklfaaDoor.jo (joined_any joinB total bytesOf total_append total_one bytesOf_append bytesOf_one bytesOf_length)
set_option linter.unusedVariables false
set_option linter.unusedSimpArgs false
attribute [local go_sem] Oper.semAt_some

/-- the two parts of a record -/
def partsAt (key : ByteArray) (l : List ByteArray) (k : Nat) : List ByteArray := [pn.numB ((l.getD k ⟨#[]⟩).size : Int) ++ l.getD k ⟨#[]⟩, (chain macB key (l.take (k + 1))).extract 0 8]
def partsOf (key : ByteArray) (l : List ByteArray) (pre : List (Fin l.length)) : List ByteArray := pre.flatMap fun k => partsAt key l k.1
theorem partsOf_nil (key : ByteArray) (l : List ByteArray) : partsOf key l [] = [] := rfl
theorem partsOf_snoc (key : ByteArray) (l : List ByteArray) (pre : List (Fin l.length)) (k : Fin l.length) : partsOf key l (pre ++ [k]) = partsOf key l pre ++ partsAt key l k.1 := by
  simp [partsOf]
theorem partsOf_length (key : ByteArray) (l : List ByteArray) (pre : List (Fin l.length)) : (partsOf key l pre).length = 2 * pre.length := by
  unfold partsOf
  induction pre with
  | nil => rfl
  | cons a t ih => rw [List.flatMap_cons, List.length_append, ih]; simp [partsAt]; omega
theorem joinB_app (a b : List ByteArray) : joinB (a ++ b) = joinB a ++ joinB b := by
  apply ByteArray.ext
  unfold joinB
  rw [bytesOf_append]
  simp
theorem joinB_parts (key : ByteArray) (l : List ByteArray) : ∀ k, k ≤ l.length → joinB (partsOf key l (upF l.length k)) = logB macB key (l.take k)
  | 0, _ => by rw [upF_zero, partsOf_nil]; rfl
  | k + 1, h => by
    rw [upF_succ (by omega), partsOf_snoc, joinB_app, joinB_parts key l k (by omega), logB_step (by omega)]
    congr 1
    show joinB [_, _] = _
    rw [jo.joinB_two]
    unfold recB
    rw [getD_at (by omega)]
theorem joinB_all (key : ByteArray) (l : List ByteArray) : joinB (partsOf key l (List.finRange l.length)) = logB macB key l := by
  rw [← upF_all, joinB_parts key l l.length (Nat.le_refl _), List.take_length]
theorem total_join (s : List ByteArray) : total s = (joinB s).size := by
  show total s = (bytesOf s).toArray.size
  rw [List.size_toArray, bytesOf_length]
/-- the parts so far, in a row of their own -/
def InT (n₀ n₁ : Nat) (w : World) (P : Nat) (s : List ByteArray) (v : Value) (W : World) : Prop := Grw n₀ n₁ w P #[v] 23 9 1 s.length (s.map Value.string) v W
set_option maxRecDepth 100000 in
set_option maxHeartbeats 8000000 in
theorem joined_none (p : Option Addr) (cap : Nat) (w : World) : Calls Tryd.prog 39 #[.slice p 0 cap] w fun e w' => e = .returned (.string ⟨#[]⟩) ∧ Below w.heap.size w w' := by
  have HB : Hid (∀ o, Below w.heap.size w (w.alloc o)) := fun o => (Below.refl _ _).alloc (Nat.le_refl _) o
  obtain ⟨i0, hi, hz0, hz1, hz2⟩ := info_parts jo.info5
  have hmk : (Instr.makeSlice 22 (.int .i64 0) (.int .i64 0)).run Tryd.prog w = .ok (.slice (some ⟨w.heap.size, 0, none⟩) 0 0) (w.alloc (.cells #[] 5)) := by
    have h := run_make (P := Tryd.prog) w 22 5 i0 (.int .u8 0) Tryd.underlying22 hi hz0 .i64 .i64 0 0 (by omega) (Int.le_refl _) (by rw [hz2]; omega) (by omega)
    simpa [hz1, Value.cells, jo.madeRow] using h
  have hconv := run_convert_bytes_back (P := Tryd.prog) (w.alloc (.cells #[] 5)) 22 9 5 ⟨w.heap.size, 0, none⟩ 0 [] Tryd.underlying22 Tryd.underlying5 Tryd.underlying9 (fun j hj => by simp at hj)
  rw [List.length_nil] at hconv
  clear hi hz0 hz1 hz2
  go_enter Tryd.func39, Tryd.ntmps39
  go_wp2
  refine wp_loop_rounds 1 ?_
  rw [rounds_succ]
  go_wp2
  refine wp_loop_rounds 1 ?_
  rw [rounds_succ]
  go_wp2
  go_ret
  exact ⟨rfl, HB.out _⟩
theorem joined_row (s : List ByteArray) (base : Nat) (v : Value) (W : World) (hs : s.length ≤ 1000000) (ht : (joinB s).size ≤ 1099511627776) (hr : W.ownsRow base 9 1 v s.length (s.map Value.string)) :
    Calls Tryd.prog 39 #[v] W fun e w' => e = .returned (.string (joinB s)) ∧ Below W.heap.size W w' := by
  have hr0 := hr
  rcases hr.2 with ⟨rfl, h0⟩ | ⟨g, cap, cur, rfl, hb, hg, _⟩
  · obtain rfl : s = [] := List.eq_nil_of_length_eq_zero h0
    exact joined_none none 0 W
  · refine joined_any s g cap W (heap_lt hg) hs (by rw [total_join]; exact ht) (fun i hi => ?_)
    rw [hr0.cellAt i (by omega), List.getElem?_map, List.getElem?_eq_getElem hi]; rfl
set_option maxHeartbeats 8000000 in
set_option maxRecDepth 100000 in
theorem textI_yes (key : ByteArray) (v : Value) (l : List ByteArray) (w : World) (h : RecsL key l) (hT : Tab w) (hv : SliceIs w v l) :
    Calls Tryd.prog 7 #[.string key, v] w fun e w' => e = .returned (.string (logT macB key l)) ∧ Below w.heap.size w w' := by
  have hk := h.2.1
  have h1 := h.1
  have h60 := h.2.2
  have HK : Hid (Calls Tryd.prog 34 #[.string key] w fun e w' => e = .returned (.bool true) ∧ w' = w) := keyI_yes key w hk
  have HQ : Hid (Calls Tryd.prog 35 #[v] w fun r w' => r = .returned (.bool true) ∧ w' = w) := logI_yes v l w ⟨h.1, h.2.2⟩ hv
  obtain ⟨p, cap, rfl⟩ := hv.shape
  refine (callsIn_wide (n := 5)).1 ?_
  refine callsIn_of_wp_marks Tryd.func7 rfl trivial ?_ rfl
  simp only [Tryd.ntmps7, List.size_toArray, List.length_cons, List.length_nil, Nat.reduceAdd, Nat.reduceSub, Array.replicate_succ, Array.replicate_zero, List.push_toArray, List.append_toArray, List.nil_append, List.cons_append]
  gi_wp2_with (first | (refine ⟨trivial, ?_⟩; gi_at_call 34; refine (callsIn_wide.2 HK.out).mono ?_; rintro e w1 ⟨rfl, hw1⟩; obtain rfl := hw1.symm) | (refine ⟨trivial, ?_⟩; gi_at_call 35; refine (callsIn_wide.2 HQ.out).mono ?_; rintro e w1 ⟨rfl, hw1⟩; obtain rfl := hw1.symm) | (refine ⟨trivial, ?_⟩; gi_at_call 36; refine (callsIn_wide.2 (chainedBy_any key p l.length cap _)).mono ?_; rintro e w2 ⟨rfl, rfl⟩))
  obtain ⟨W0, hW0, bC, bK, bR, hsz, hB0⟩ := three_boxes w 23 (.slice none 0 0) key (.slice p l.length cap)
  rw [← hW0]
  clear hW0 HK HQ
  refine wpIn_rangeFunc_ownH rfl (by omega) (gf := 64) (lb := #[.pointer (some ⟨w.heap.size + 1, 0, none⟩), .pointer (some ⟨w.heap.size + 1 + 1, 0, none⟩)]) rfl trivial (enters_of Tryd.func64 (by kernel_rfl) rfl)
    (chained_any 4 w.heap.size W0.heap.size key l (.slice p l.length cap) (w.heap.size + 1) (w.heap.size + 1 + 1) W0 (by omega) hk h1 h60 (hT.up hB0) hT.lt (by omega) (Nat.le_refl _) bK.cell bR.cell ((SlN.of hv).below hB0)) Kc.trans (fun W l' o o' hl ho hc _ => Kc.put o' (by omega) ho hc) (Below.refl _ _) (fun _ => rfl)
    (fun pre W => ∃ v, InT w.heap.size W0.heap.size w w.heap.size (partsOf key l pre) v W)
    (fun _ _ _ => False)
    (Grw.own (Nat.le_refl _) (by omega) (fun pre => (partsOf key l pre).length) (fun pre => (partsOf key l pre).map Value.string) (fun _ v => #[v]))
    (fun _ _ _ _ _ hs _ _ => hs)
    ⟨_, ⟨bC, ⟨rfl, .inl ⟨rfl, rfl⟩⟩, fun _ => rfl, hB0⟩⟩
    (fun x a' W => ∃ Bx, w.heap.size < Bx ∧ W.heap[Bx]? = some (.cells #[.string (l.getD x.1 ⟨#[]⟩), .string (chain macB key (l.take x.1)), .string (chain macB key (l.take (x.1 + 1)))] 65 (0, 0)) ∧ a' = { tmps := #[.string key, .slice p l.length cap, undef, undef, .string ⟨#[]⟩, .pointer (some ⟨w.heap.size, 0, none⟩), .pointer (some ⟨Bx, 0, none⟩), undef, .string key, .bool true, .bool false, .bool false, .slice p l.length cap, .bool true, .bool false, .bool false, .string key, .slice p l.length cap, .func (.func 64) #[] #[.pointer (some ⟨w.heap.size + 1, 0, none⟩), .pointer (some ⟨w.heap.size + 1 + 1, 0, none⟩)], enc3 (l.getD x.1 ⟨#[]⟩) (chain macB key (l.take x.1)) (chain macB key (l.take (x.1 + 1))), undef, undef, undef, undef, undef, undef, undef, undef, undef, undef, undef, undef, undef, undef, undef], defers := [] })
    (fun x a' _ X Y row hs hg hr => by
      obtain ⟨Bx, h1, h2, h3⟩ := hs
      exact ⟨Bx, h1, (hg.block Bx (heap_lt h2) (fun e => by
        obtain ⟨_, o, ho, hc⟩ := hr Bx e.symm
        rw [h2] at ho; cases ho; cases hc)).trans h2, h3⟩)
    ?assign ?body ?done ?stop
  case assign =>
    rintro l' pre x W K ⟨v1, hI⟩ hK
    dsimp only [encC, enc3] at hK ⊢
    generalize l.getD x.1 ⟨#[]⟩ = r at hK ⊢
    generalize chain macB key (l.take x.1) = c at hK ⊢
    generalize chain macB key (l.take (x.1 + 1)) = d at hK ⊢
    gi_wp2
    exact hK _ _ ((KeepsOthers.alloc _ _).from _) (Kc.up ((Below.refl _ W).alloc (Nat.le_refl _) _) hI.below.size) ⟨_, Grw.up hI hI.below.size ((Below.refl _ W).alloc (Nat.le_refl _) _)⟩ ⟨W.heap.size, Nat.lt_of_lt_of_le (heap_lt hI.box) (Nat.le_refl _), heap_alloc_new W _, rfl⟩
  case body =>
    rintro l' pre x a' W hl ⟨lr, hlr⟩ ⟨v1, hI⟩ ⟨Bx, hBx, bX, rfl⟩ hlt
    have hx200 : (l.getD x.1 ⟨#[]⟩).size ≤ 200 := h1 _ (at_getDI x.2)
    have hd32 : (chain macB key (l.take (x.1 + 1))).size = 32 := chain_size lm.macB_32 (h.take _)
    have hsn : partsOf key l (pre ++ [x]) = partsOf key l pre ++ partsAt key l x.1 := partsOf_snoc key l pre x
    have hln : (partsOf key l pre).length ≤ 120 := by rw [partsOf_length]; omega
    have hWs : W0.heap.size ≤ W.heap.size := Nat.le_of_lt (Nat.lt_of_le_of_lt hl (heap_lt hlr))
    unfold partsAt at hsn
    unfold enc3
    have hI2 : Grw w.heap.size W0.heap.size w w.heap.size #[v1] 23 9 1 (partsOf key l pre).length ((partsOf key l pre).map Value.string) v1 W := hI
    generalize partsOf key l pre = S0 at *
    generalize l.getD x.1 ⟨#[]⟩ = r at *
    generalize chain macB key (l.take x.1) = c at *
    generalize chain macB key (l.take (x.1 + 1)) = d at *
    have HP : Hid (∀ u, Calls Tryd.prog 37 #[.string r] u fun e w' => e = .returned (.string (pn.numB (r.size : Int) ++ r)) ∧ Below u.heap.size u w') := fun u => by
      have := pt.impl_any r u (Nat.le_trans hx200 (by decide))
      rwa [pt.putB_yes (by omega)] at this
    have HM : Hid (∀ u, Calls Tryd.prog 38 #[.string d] u fun e w' => e = .returned (.string (d.extract 0 8)) ∧ Below u.heap.size u w') := fun u => markI_any d u (by omega) (by omega)
    generalize pn.numB (r.size : Int) ++ r = q at *
    generalize d.extract 0 8 = m at *
    have HSN : Hid (partsOf key l (pre ++ [x]) = S0 ++ [q, m]) := hsn
    obtain ⟨p1, c1, hv1⟩ := own_shape hI2.row
    subst hv1
    clear hI hsn
    obtain ⟨i0, hi, hz0, hz1, hz2⟩ := info_parts infoS
    have HU : Hid (∀ u, Below W.heap.size W u → (u.cell? ⟨Bx, 0, none⟩ = some (.string r) ∧ u.cell? ⟨Bx, 2, none⟩ = some (.string d)) ∧ u.cell? ⟨w.heap.size, 0, none⟩ = some (.slice p1 S0.length c1)) := fun u hu => by
      have e1 := (hu.block Bx (heap_lt bX)).trans bX
      have e2 := (hu.block w.heap.size (heap_lt hI2.box)).trans hI2.box
      refine ⟨⟨?_, ?_⟩, ?_⟩
      · simp [World.cell?, e1]
      · simp [World.cell?, e1]
      · simp [World.cell?, e2]
    have HX : Hid (∀ u v' w', Below W.heap.size W u → After u W0.heap.size 9 1 (.slice p1 S0.length c1) (S0.length + 2) (S0.map Value.string ++ [.string q, .string m]) v' w' →
        ((w'.cell? ⟨Bx, 0, none⟩ = some (.string r) ∧ w'.cell? ⟨Bx, 2, none⟩ = some (.string d)) ∧ w'.cell? ⟨w.heap.size, 0, none⟩ = some (.slice p1 S0.length c1) ∧ w'.frozen? ⟨w.heap.size, 0, none⟩ = false) ∧
        (((w'.setCell ⟨w.heap.size, 0, none⟩ v').cell? ⟨Bx, 0, none⟩ = some (.string r) ∧ (w'.setCell ⟨w.heap.size, 0, none⟩ v').cell? ⟨Bx, 2, none⟩ = some (.string d)) ∧
        KeepsOthers W (w'.setCell ⟨w.heap.size, 0, none⟩ v') ∧ Kc w.heap.size W0.heap.size W (w'.setCell ⟨w.heap.size, 0, none⟩ v') ∧ ∃ v, InT w.heap.size W0.heap.size w w.heap.size (partsOf key l (pre ++ [x])) v (w'.setCell ⟨w.heap.size, 0, none⟩ v'))) := fun u v' w' hu hA => by
      have hIu := hI2.up hI2.below.size hu
      have hbx := After.cell hIu.row hA (t := 65) (by decide) ((hu.block Bx (heap_lt bX)).trans bX)
      have hG := hIu.app (by omega) (Nat.le_trans hI2.below.size hu.size) (by omega) (by omega) hA
      have hS := hG.set (Nat.le_refl _) (by omega) 0 v'
      have hbx2 : (w'.setCell ⟨w.heap.size, 0, none⟩ v').heap[Bx]? = _ := (heap_setCell_other _ _ _ _ (by show Bx ≠ w.heap.size; omega)).trans hbx
      refine ⟨⟨⟨?_, ?_⟩, ?_, frozen_of_row _ _ _ _ _ hG.box⟩, ⟨?_, ?_⟩, ?_, ?_, v', ?_⟩
      · simp [World.cell?, hbx]
      · simp [World.cell?, hbx]
      · simp [World.cell?, hG.box]
      · simp [World.cell?, hbx2]
      · simp [World.cell?, hbx2]
      · exact ((others_up hu).trans (After.others hIu.row hA)).trans (KeepsOthers.setCell _ _ _)
      · exact ((Kc.up hu hI2.below.size).trans (After.kc hIu.row (by decide) (by omega) (Nat.le_trans hI2.below.size hu.size) hA)).trans (Kc.setLow _ (Nat.le_refl _) (by omega))
      · rw [HSN.out]
        show Grw _ _ _ _ #[v'] _ _ _ _ _ _ _
        rw [List.length_append, List.map_append]
        exact hS
    have HR : Hid (∀ u, Below W.heap.size W u → u.ownsRow W0.heap.size 9 1 (.slice p1 S0.length c1) S0.length (S0.map Value.string) ∧ W0.heap.size ≤ u.heap.size) := fun u hu => ⟨(hI2.up hI2.below.size hu).row, Nat.le_trans hWs hu.size⟩
    have HN : Hid (S0.length = 0 → (Value.slice p1 S0.length c1) = .slice none 0 0) := hI2.nil
    clear hI2 hlr bX
    gi_wp2_with fail
    have hb0 : Below W.heap.size W W.drew := (Below.refl _ _).drew
    refine region_round (S := fun u => u.cell? ⟨Bx, 0, none⟩ = some (.string r) ∧ u.cell? ⟨Bx, 2, none⟩ = some (.string d)) (by kernel_rfl) (by kernel_rfl) (HU.out _ hb0).1 (fun hHeld => ?_)
    refine wpAnyH_take (i := 1) (oi := { dst := some 21, op := Op.fieldAddr 65 (Operand.tmp 6) 0, type := 0, pos := "l05_log.go:140", after := #[], guard := none }) (v := ?_) rfl (by kernel_rfl) (by kernel_rfl) (by kernel_rfl) onlyN_up (Or.inl ⟨by rfl, ?_⟩) hHeld ?_
    rotate_left
    · rintro w ⟨z0, z2⟩; go_simp; (try with_reducible rfl)
    try simp only [Act.put, List.setIfInBounds_toArray, List.set_cons_zero, List.set_cons_succ]
    refine wpAnyH_take (i := 2) (oi := { dst := some 22, op := Op.load 9 (Operand.tmp 21), type := 9, pos := "l05_log.go:140", after := #[{ on := 1, ground := Ground.data }], guard := none }) (v := ?_) rfl (by kernel_rfl) (by kernel_rfl) (by kernel_rfl) onlyN_up (Or.inl ⟨by rfl, ?_⟩) hHeld ?_
    rotate_left
    · rintro w ⟨z0, z2⟩; go_simp; (try with_reducible rfl)
    try simp only [Act.put, List.setIfInBounds_toArray, List.set_cons_zero, List.set_cons_succ]
    refine wpAnyH_take (i := 4) (oi := { dst := some 24, op := Op.fieldAddr 65 (Operand.tmp 6) 2, type := 0, pos := "l05_log.go:140", after := #[], guard := none }) (v := ?_) rfl (by kernel_rfl) (by kernel_rfl) (by kernel_rfl) onlyN_up (Or.inl ⟨by rfl, ?_⟩) hHeld ?_
    rotate_left
    · rintro w ⟨z0, z2⟩; go_simp; (try with_reducible rfl)
    try simp only [Act.put, List.setIfInBounds_toArray, List.set_cons_zero, List.set_cons_succ]
    refine wpAnyH_take (i := 5) (oi := { dst := some 25, op := Op.load 9 (Operand.tmp 24), type := 9, pos := "l05_log.go:140", after := #[{ on := 4, ground := Ground.data }], guard := none }) (v := ?_) rfl (by kernel_rfl) (by kernel_rfl) (by kernel_rfl) onlyN_up (Or.inl ⟨by rfl, ?_⟩) hHeld ?_
    rotate_left
    · rintro w ⟨z0, z2⟩; go_simp; (try with_reducible rfl)
    try simp only [Act.put, List.setIfInBounds_toArray, List.set_cons_zero, List.set_cons_succ]
    refine wpAnyH_ready (rs := [0, 3]) (by kernel_rfl) (by simp) ?_
    refine AllReadyH.cons rfl (fun K hK => ?_) (AllReadyH.cons rfl (fun K hK => ?_) AllReadyH.nil)
    · skip
      have c0 := (HU.out _ hb0).2
      go_simp
      refine hK.out _ _ (HU.out _ hb0).1 (fun hHeld => ?_)
      clear c0
      clear hK K
      try simp only [Act.put, List.setIfInBounds_toArray, List.set_cons_zero, List.set_cons_succ]
      refine wpAnyH_ready (rs := [3]) (by kernel_rfl) (by simp) ?_
      refine AllReadyH.cons rfl (fun K hK => ?_) AllReadyH.nil
      go_simp
      go_at_call 37
      refine (HP.out _).mono ?_
      rintro e1 u1 ⟨rfl, hb1'⟩
      have hb1 : Below W.heap.size W u1 := (hb0).trans (hb1'.mono (hb0).size)
      go_wp2_with fail
      refine hK.out _ _ (HU.out _ hb1).1 (fun hHeld => ?_)
      clear hb1'
      clear hK K
      try simp only [Act.put, List.setIfInBounds_toArray, List.set_cons_zero, List.set_cons_succ]
      refine wpAnyH_ready (rs := [6]) (by kernel_rfl) (by simp) ?_
      refine AllReadyH.cons rfl (fun K hK => ?_) AllReadyH.nil
      go_simp
      go_at_call 38
      refine (HM.out _).mono ?_
      rintro e2 u2 ⟨rfl, hb2'⟩
      have hb2 : Below W.heap.size W u2 := (hb1).trans (hb2'.mono (hb1).size)
      go_wp2_with fail
      refine hK.out _ _ (HU.out _ hb2).1 (fun hHeld => ?_)
      clear hb2'
      clear hK K
      try simp only [Act.put, List.setIfInBounds_toArray, List.set_cons_zero, List.set_cons_succ]
      refine wpAnyH_ready (rs := [7]) (by kernel_rfl) (by simp) ?_
      refine AllReadyH.cons rfl (fun K hK => ?_) AllReadyH.nil
      go_simp
      have hb3 : Below W.heap.size W (u2.alloc (.cells #[.string q, .string m] 9)) := (hb2).alloc (hb2).size _
      refine hK.out _ _ (HU.out _ hb3).1 (fun hHeld => ?_)
      clear hK K
      try simp only [Act.put, List.setIfInBounds_toArray, List.set_cons_zero, List.set_cons_succ]
      refine wpAnyH_ready (rs := [8]) (by kernel_rfl) (by simp) ?_
      refine AllReadyH.cons rfl (fun K hK => ?_) AllReadyH.nil
      rw [if_pos (by rfl)]
      refine wp_append_first (u2.alloc (.cells #[.string q, .string m] 9)) (.tmp 20) (.tmp 27) 23 rfl W0.heap.size 9 i0 (.string ⟨#[]⟩) 1 16 Tryd.underlying23 hi hz0 hz1 hz2 rfl (by decide) (.slice p1 S0.length c1) S0.length (S0.map Value.string) rfl (HR.out _ hb3).1 HN.out ⟨u2.heap.size, 0, none⟩ 2 2 [.string q, .string m] rfl rfl (two_new _ _ _ _) (by simp [Value.oneCell']) (by unfold maxLen; omega) (by omega) (HR.out _ hb3).2 ?_
      intro v4 u4 hA4
      have hX4 := HX.out _ _ _ hb3 hA4
      obtain ⟨pv4, cv4, rfl⟩ := own_shape hA4.own
      refine hK.out _ _ hX4.1.1 (fun hHeld => ?_)
      clear hK K
      try simp only [Act.put, List.setIfInBounds_toArray, List.set_cons_zero, List.set_cons_succ]
      refine wpAnyH_ready (rs := [9]) (by kernel_rfl) (by simp) ?_
      refine AllReadyH.cons rfl (fun K hK => ?_) AllReadyH.nil
      have c1 := hX4.1.2.1
      have f1 := hX4.1.2.2
      go_simp
      refine hK.out _ _ hX4.2.1 (fun hHeld => ?_)
      clear hK K
      try simp only [Act.put, List.setIfInBounds_toArray, List.set_cons_zero, List.set_cons_succ]
      refine wpAnyH_done (by kernel_rfl) ?_ _
      refine ⟨rfl, ?_⟩
      exact ⟨hX4.2.2.1.from _, hX4.2.2.2.1, hX4.2.2.2.2⟩
    · skip
      go_simp
      go_at_call 37
      refine (HP.out _).mono ?_
      rintro e5 u5 ⟨rfl, hb5'⟩
      have hb5 : Below W.heap.size W u5 := (hb0).trans (hb5'.mono (hb0).size)
      go_wp2_with fail
      refine hK.out _ _ (HU.out _ hb5).1 (fun hHeld => ?_)
      clear hb5'
      clear hK K
      try simp only [Act.put, List.setIfInBounds_toArray, List.set_cons_zero, List.set_cons_succ]
      refine wpAnyH_ready (rs := [0, 6]) (by kernel_rfl) (by simp) ?_
      refine AllReadyH.cons rfl (fun K hK => ?_) (AllReadyH.cons rfl (fun K hK => ?_) AllReadyH.nil)
      · skip
        have c0 := (HU.out _ hb5).2
        go_simp
        refine hK.out _ _ (HU.out _ hb5).1 (fun hHeld => ?_)
        clear c0
        clear hK K
        try simp only [Act.put, List.setIfInBounds_toArray, List.set_cons_zero, List.set_cons_succ]
        refine wpAnyH_ready (rs := [6]) (by kernel_rfl) (by simp) ?_
        refine AllReadyH.cons rfl (fun K hK => ?_) AllReadyH.nil
        go_simp
        go_at_call 38
        refine (HM.out _).mono ?_
        rintro e6 u6 ⟨rfl, hb6'⟩
        have hb6 : Below W.heap.size W u6 := (hb5).trans (hb6'.mono (hb5).size)
        go_wp2_with fail
        refine hK.out _ _ (HU.out _ hb6).1 (fun hHeld => ?_)
        clear hb6'
        clear hK K
        try simp only [Act.put, List.setIfInBounds_toArray, List.set_cons_zero, List.set_cons_succ]
        refine wpAnyH_ready (rs := [7]) (by kernel_rfl) (by simp) ?_
        refine AllReadyH.cons rfl (fun K hK => ?_) AllReadyH.nil
        go_simp
        have hb7 : Below W.heap.size W (u6.alloc (.cells #[.string q, .string m] 9)) := (hb6).alloc (hb6).size _
        refine hK.out _ _ (HU.out _ hb7).1 (fun hHeld => ?_)
        clear hK K
        try simp only [Act.put, List.setIfInBounds_toArray, List.set_cons_zero, List.set_cons_succ]
        refine wpAnyH_ready (rs := [8]) (by kernel_rfl) (by simp) ?_
        refine AllReadyH.cons rfl (fun K hK => ?_) AllReadyH.nil
        rw [if_pos (by rfl)]
        refine wp_append_first (u6.alloc (.cells #[.string q, .string m] 9)) (.tmp 20) (.tmp 27) 23 rfl W0.heap.size 9 i0 (.string ⟨#[]⟩) 1 16 Tryd.underlying23 hi hz0 hz1 hz2 rfl (by decide) (.slice p1 S0.length c1) S0.length (S0.map Value.string) rfl (HR.out _ hb7).1 HN.out ⟨u6.heap.size, 0, none⟩ 2 2 [.string q, .string m] rfl rfl (two_new _ _ _ _) (by simp [Value.oneCell']) (by unfold maxLen; omega) (by omega) (HR.out _ hb7).2 ?_
        intro v8 u8 hA8
        have hX8 := HX.out _ _ _ hb7 hA8
        obtain ⟨pv8, cv8, rfl⟩ := own_shape hA8.own
        refine hK.out _ _ hX8.1.1 (fun hHeld => ?_)
        clear hK K
        try simp only [Act.put, List.setIfInBounds_toArray, List.set_cons_zero, List.set_cons_succ]
        refine wpAnyH_ready (rs := [9]) (by kernel_rfl) (by simp) ?_
        refine AllReadyH.cons rfl (fun K hK => ?_) AllReadyH.nil
        have c1 := hX8.1.2.1
        have f1 := hX8.1.2.2
        go_simp
        refine hK.out _ _ hX8.2.1 (fun hHeld => ?_)
        clear hK K
        try simp only [Act.put, List.setIfInBounds_toArray, List.set_cons_zero, List.set_cons_succ]
        refine wpAnyH_done (by kernel_rfl) ?_ _
        refine ⟨rfl, ?_⟩
        exact ⟨hX8.2.2.1.from _, hX8.2.2.2.1, hX8.2.2.2.2⟩
      · skip
        go_simp
        go_at_call 38
        refine (HM.out _).mono ?_
        rintro e9 u9 ⟨rfl, hb9'⟩
        have hb9 : Below W.heap.size W u9 := (hb5).trans (hb9'.mono (hb5).size)
        go_wp2_with fail
        refine hK.out _ _ (HU.out _ hb9).1 (fun hHeld => ?_)
        clear hb9'
        clear hK K
        try simp only [Act.put, List.setIfInBounds_toArray, List.set_cons_zero, List.set_cons_succ]
        refine wpAnyH_ready (rs := [0, 7]) (by kernel_rfl) (by simp) ?_
        refine AllReadyH.cons rfl (fun K hK => ?_) (AllReadyH.cons rfl (fun K hK => ?_) AllReadyH.nil)
        · skip
          have c0 := (HU.out _ hb9).2
          go_simp
          refine hK.out _ _ (HU.out _ hb9).1 (fun hHeld => ?_)
          clear c0
          clear hK K
          try simp only [Act.put, List.setIfInBounds_toArray, List.set_cons_zero, List.set_cons_succ]
          refine wpAnyH_ready (rs := [7]) (by kernel_rfl) (by simp) ?_
          refine AllReadyH.cons rfl (fun K hK => ?_) AllReadyH.nil
          go_simp
          have hb10 : Below W.heap.size W (u9.alloc (.cells #[.string q, .string m] 9)) := (hb9).alloc (hb9).size _
          refine hK.out _ _ (HU.out _ hb10).1 (fun hHeld => ?_)
          clear hK K
          try simp only [Act.put, List.setIfInBounds_toArray, List.set_cons_zero, List.set_cons_succ]
          refine wpAnyH_ready (rs := [8]) (by kernel_rfl) (by simp) ?_
          refine AllReadyH.cons rfl (fun K hK => ?_) AllReadyH.nil
          rw [if_pos (by rfl)]
          refine wp_append_first (u9.alloc (.cells #[.string q, .string m] 9)) (.tmp 20) (.tmp 27) 23 rfl W0.heap.size 9 i0 (.string ⟨#[]⟩) 1 16 Tryd.underlying23 hi hz0 hz1 hz2 rfl (by decide) (.slice p1 S0.length c1) S0.length (S0.map Value.string) rfl (HR.out _ hb10).1 HN.out ⟨u9.heap.size, 0, none⟩ 2 2 [.string q, .string m] rfl rfl (two_new _ _ _ _) (by simp [Value.oneCell']) (by unfold maxLen; omega) (by omega) (HR.out _ hb10).2 ?_
          intro v11 u11 hA11
          have hX11 := HX.out _ _ _ hb10 hA11
          obtain ⟨pv11, cv11, rfl⟩ := own_shape hA11.own
          refine hK.out _ _ hX11.1.1 (fun hHeld => ?_)
          clear hK K
          try simp only [Act.put, List.setIfInBounds_toArray, List.set_cons_zero, List.set_cons_succ]
          refine wpAnyH_ready (rs := [9]) (by kernel_rfl) (by simp) ?_
          refine AllReadyH.cons rfl (fun K hK => ?_) AllReadyH.nil
          have c1 := hX11.1.2.1
          have f1 := hX11.1.2.2
          go_simp
          refine hK.out _ _ hX11.2.1 (fun hHeld => ?_)
          clear hK K
          try simp only [Act.put, List.setIfInBounds_toArray, List.set_cons_zero, List.set_cons_succ]
          refine wpAnyH_done (by kernel_rfl) ?_ _
          refine ⟨rfl, ?_⟩
          exact ⟨hX11.2.2.1.from _, hX11.2.2.2.1, hX11.2.2.2.2⟩
        · skip
          go_simp
          have hb12 : Below W.heap.size W (u9.alloc (.cells #[.string q, .string m] 9)) := (hb9).alloc (hb9).size _
          refine hK.out _ _ (HU.out _ hb12).1 (fun hHeld => ?_)
          clear hK K
          try simp only [Act.put, List.setIfInBounds_toArray, List.set_cons_zero, List.set_cons_succ]
          refine wpAnyH_ready (rs := [0]) (by kernel_rfl) (by simp) ?_
          refine AllReadyH.cons rfl (fun K hK => ?_) AllReadyH.nil
          have c0 := (HU.out _ hb12).2
          go_simp
          refine hK.out _ _ (HU.out _ hb12).1 (fun hHeld => ?_)
          clear c0
          clear hK K
          try simp only [Act.put, List.setIfInBounds_toArray, List.set_cons_zero, List.set_cons_succ]
          refine wpAnyH_ready (rs := [8]) (by kernel_rfl) (by simp) ?_
          refine AllReadyH.cons rfl (fun K hK => ?_) AllReadyH.nil
          rw [if_pos (by rfl)]
          refine wp_append_first (u9.alloc (.cells #[.string q, .string m] 9)) (.tmp 20) (.tmp 27) 23 rfl W0.heap.size 9 i0 (.string ⟨#[]⟩) 1 16 Tryd.underlying23 hi hz0 hz1 hz2 rfl (by decide) (.slice p1 S0.length c1) S0.length (S0.map Value.string) rfl (HR.out _ hb12).1 HN.out ⟨u9.heap.size, 0, none⟩ 2 2 [.string q, .string m] rfl rfl (two_new _ _ _ _) (by simp [Value.oneCell']) (by unfold maxLen; omega) (by omega) (HR.out _ hb12).2 ?_
          intro v13 u13 hA13
          have hX13 := HX.out _ _ _ hb12 hA13
          obtain ⟨pv13, cv13, rfl⟩ := own_shape hA13.own
          refine hK.out _ _ hX13.1.1 (fun hHeld => ?_)
          clear hK K
          try simp only [Act.put, List.setIfInBounds_toArray, List.set_cons_zero, List.set_cons_succ]
          refine wpAnyH_ready (rs := [9]) (by kernel_rfl) (by simp) ?_
          refine AllReadyH.cons rfl (fun K hK => ?_) AllReadyH.nil
          have c1 := hX13.1.2.1
          have f1 := hX13.1.2.2
          go_simp
          refine hK.out _ _ hX13.2.1 (fun hHeld => ?_)
          clear hK K
          try simp only [Act.put, List.setIfInBounds_toArray, List.set_cons_zero, List.set_cons_succ]
          refine wpAnyH_done (by kernel_rfl) ?_ _
          refine ⟨rfl, ?_⟩
          exact ⟨hX13.2.2.1.from _, hX13.2.2.2.1, hX13.2.2.2.2⟩
  case done =>
    rintro D xs W hD rfl ⟨v1, hI⟩ hK
    have hle := lm.logB_le h
    have HJ : Hid (Calls Tryd.prog 39 #[v1] W fun e w' => e = .returned (.string (logB macB key l)) ∧ Below W.heap.size W w') := by
      have := joined_row (partsOf key l (List.finRange l.length)) W0.heap.size v1 W (by rw [partsOf_length, List.length_finRange]; omega) (by rw [joinB_all]; omega) hI.row
      rwa [joinB_all] at this
    have HT1 : Hid ((logB macB key l).size ≤ 8000 → logT macB key l = logB macB key l) := fun x => logT_yes h x
    have HT2 : Hid (8000 < (logB macB key l).size → logT macB key l = ⟨#[]⟩) := fun x => logT_long x
    generalize logB macB key l = y at *
    have hc1 : W.cell? ⟨w.heap.size, 0, none⟩ = some v1 := Boxed.cell hI.box
    have hWb := hI.below
    have hKb := heap_lt hK
    clear hI hT hv h h1 bC bK bR hB0
    by_cases h8 : 8000 < y.size
    · have hz := HT2.out h8
      have d3 : decide (8000 < (y.size : Int)) = true := decide_eq_true (by omega)
      gi_wp2_with (refine ⟨trivial, ?_⟩; gi_at_call 39; refine (callsIn_wide.2 HJ.out).mono ?_; rintro e w3 ⟨rfl, hb3⟩)
      have hK3 := (hb3.block D hKb).trans hK
      refine ⟨by simp, .inl ⟨_, _, rfl, run_takeDeferred hK3, ?_⟩⟩
      exact ⟨_, results_tmp rfl _ _ _, by rw [hz]; rfl, (hWb.trans (hb3.mono hWb.size)).grown (grownBy_putObj' w3 D _) (Nat.le_trans hWb.size hb3.size) (fun k e => by cases e; omega)⟩
    · have hz := HT1.out (by omega)
      have d3 : decide (8000 < (y.size : Int)) = false := decide_eq_false (by omega)
      gi_wp2_with (refine ⟨trivial, ?_⟩; gi_at_call 39; refine (callsIn_wide.2 HJ.out).mono ?_; rintro e w3 ⟨rfl, hb3⟩)
      have hK3 := (hb3.block D hKb).trans hK
      refine ⟨by simp, .inl ⟨_, _, rfl, run_takeDeferred hK3, ?_⟩⟩
      exact ⟨_, results_tmp rfl _ _ _, by rw [hz]; rfl, (hWb.trans (hb3.mono hWb.size)).grown (grownBy_putObj' w3 D _) (Nat.le_trans hWb.size hb3.size) (fun k e => by cases e; omega)⟩
  case stop =>
    rintro D c pre W _ _ h _
    exact h.elim
set_option maxHeartbeats 8000000 in
theorem textI_any (key : ByteArray) (v : Value) (l : List ByteArray) (w : World) (hk : key.size ≤ maxLen) (hl : l.length ≤ maxLen) (hz : ∀ r ∈ l, r.size ≤ maxLen) (hT : Tab w) (hv : SliceIs w v l) :
    Calls Tryd.prog 7 #[.string key, v] w fun e w' => e = .returned (.string (logT macB key l)) ∧ Below w.heap.size w w' := by
  by_cases h : RecsL key l
  · exact textI_yes key v l w h hT hv
  · rw [logT_no h]
    have HB : Hid (Below w.heap.size w w) := Below.refl _ _
    by_cases hK : KeyL key
    · have hR : ¬ RecsR l := fun x => h ⟨x.1, hK, x.2⟩
      have HK : Hid (∀ u, Calls Tryd.prog 34 #[.string key] u fun e w' => e = .returned (.bool true) ∧ w' = u) := fun u => keyI_yes key u hK
      have HQ : Hid (Calls Tryd.prog 35 #[v] w fun r w' => r = .returned (.bool false) ∧ w' = w) := logI_no v l w hl hz hR hv
      obtain ⟨p, cap, rfl⟩ := hv.shape
      generalize l.length = n at *
      clear hv hz h hR hK hT hl
      go_enter Tryd.func7, Tryd.ntmps7
      go_wp2_with (first | (go_at_call 34; (with_reducible refine (HK.out _).mono ?_); rintro r w' ⟨rfl, hw'⟩; obtain rfl := hw'.symm) | (go_at_call 35; (refine (HQ.out).mono ?_); rintro r w' ⟨rfl, hw'⟩; obtain rfl := hw'.symm))
      go_ret
      exact ⟨rfl, HB.out⟩
    · have HK : Hid (∀ u, Calls Tryd.prog 34 #[.string key] u fun e w' => e = .returned (.bool false) ∧ w' = u) := fun u => keyI_no key u hk hK
      obtain ⟨p, cap, rfl⟩ := hv.shape
      generalize l.length = n at *
      clear hv hz h hK hT hl
      go_enter Tryd.func7, Tryd.ntmps7
      go_wp2_with (first | (go_at_call 34; (with_reducible refine (HK.out _).mono ?_); rintro r w' ⟨rfl, hw'⟩; obtain rfl := hw'.symm))
      go_ret
      exact ⟨rfl, HB.out⟩
end Go.Proofs.YtcfekhahibklfaaDoor.li
