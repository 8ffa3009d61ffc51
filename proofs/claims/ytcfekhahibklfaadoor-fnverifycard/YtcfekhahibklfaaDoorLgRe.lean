/-
  The program's LogRead by a plain function, its records in a slice of its own; no old block turns. Condition: the table of the rounds' numbers lies in its variable.
-/
import Derived.Test.YtcfekhahibklfaaDoorLgRi
import Derived.Test.YtcfekhahibklfaaDoorLgGw
import Derived.Test.YtcfekhahibklfaaDoorLogR
namespace Go.Proofs.YtcfekhahibklfaaDoor.li
open Go.ChangeShapes Go.WideShapes Go.ChangeAt Go.RowKit Go.Shelf
open Go.Proofs.YtcfekhahibklfaaDoor.wi (heap_lt calls_w wp_w)
open Go.Proofs.YtcfekhahibklfaaDoor.lg Go.Proofs.YtcfekhahibklfaaDoor.ss
open Go.Proofs.YtcfekhahibklfaaDoor.la
open Go.Proofs.YtcfekhahibklfaaDoor.lm (ReadPost logR_size logR_yes logR_form infoR readM_stop)
open Go.Proofs.YtcfekhahibklfaaDoor.tp (textV)
open Go.Proofs.YtcfekhahibklfaaDoor.sh (macB macB_size Tab Tab.up Tab.below Tab.lt)
set_option linter.unusedVariables false
set_option linter.unusedSimpArgs false
attribute [local go_sem] Oper.semAt_some

/-- the records so far, and the place behind them -/
def recsOf (key text : ByteArray) (pre : List (Fin (seqL key text).length)) : List ByteArray := pre.map fun k => ((seqL key text).getD k.1 (⟨#[]⟩, 0)).1
def placeOf (key text : ByteArray) (pre : List (Fin (seqL key text).length)) : Int := match pre.getLast? with
  | none => 0
  | some k => ((seqL key text).getD k.1 (⟨#[]⟩, 0)).2
theorem recsOf_snoc (key text : ByteArray) (pre : List (Fin (seqL key text).length)) (k : Fin (seqL key text).length) : recsOf key text (pre ++ [k]) = recsOf key text pre ++ [((seqL key text).getD k.1 (⟨#[]⟩, 0)).1] := by
  unfold recsOf; rw [List.map_append]; rfl
theorem placeOf_snoc (key text : ByteArray) (pre : List (Fin (seqL key text).length)) (k : Fin (seqL key text).length) : placeOf key text (pre ++ [k]) = ((seqL key text).getD k.1 (⟨#[]⟩, 0)).2 := by
  unfold placeOf; rw [List.getLast?_append]; rfl
theorem recsOf_all (key text : ByteArray) : recsOf key text (List.finRange (seqL key text).length) = (readL macB key text).1 := by
  unfold readL
  rw [← seqF_recs]
  show _ = (seqL key text).map Prod.fst
  unfold recsOf
  apply List.ext_getElem
  · simp
  · intro i h1 h2
    simp only [List.length_map, List.length_finRange] at h1
    simp [List.getD, List.getElem?_eq_getElem h1]
theorem placeOf_all (key text : ByteArray) : placeOf key text (List.finRange (seqL key text).length) = (readL macB key text).2 := by
  unfold readL
  rw [← seqF_at]
  show _ = ((seqL key text).getLast?.map Prod.snd).getD 0
  rcases Nat.eq_zero_or_pos (seqL key text).length with h | h
  · have e1 : (seqL key text).getLast? = none := by rw [List.eq_nil_of_length_eq_zero h]; rfl
    have e2 : (List.finRange (seqL key text).length) = [] := List.eq_nil_of_length_eq_zero (by simp [h])
    rw [e1, e2]; rfl
  · have e := upF_succ (n := (seqL key text).length) (k := (seqL key text).length - 1) (by omega)
    have e1 : (seqL key text).length - 1 + 1 = (seqL key text).length := by omega
    rw [e1, upF_all] at e
    rw [e, placeOf_snoc, List.getLast?_eq_getElem?, List.getElem?_eq_getElem (by omega), List.getD, List.getElem?_eq_getElem (by omega)]
    rfl
set_option maxHeartbeats 8000000 in
set_option maxRecDepth 100000 in
theorem readI_yes (key text : ByteArray) (w : World) (hk : KeyL key) (ht : text.size ≤ 8000) (hT : Tab w) :
    Calls Tryd.prog 14 #[.string key, .string text] w (ReadPost w ((readL macB key text).1, (readL macB key text).2, 0)) := by
  have hk64 := hk.2
  have HK : Hid (∀ u, Calls Tryd.prog 34 #[.string key] u fun e w' => e = .returned (.bool true) ∧ w' = u) := fun u => keyI_yes key u hk
  have d1 : decide (8000 < (key.size : Int)) = false := decide_eq_false (by omega)
  have d2 : decide (8000 < (text.size : Int)) = false := decide_eq_false (by omega)
  refine (callsIn_wide (n := 5)).1 ?_
  refine callsIn_of_wp_marks Tryd.func14 rfl trivial ?_ rfl
  simp only [Tryd.ntmps14, List.size_toArray, List.length_cons, List.length_nil, Nat.reduceAdd, Nat.reduceSub, Array.replicate_succ, Array.replicate_zero, List.push_toArray, List.append_toArray, List.nil_append, List.cons_append]
  gi_wp2_with (first | (refine ⟨trivial, ?_⟩; gi_at_call 34; refine (callsIn_wide.2 (HK.out _)).mono ?_; rintro e w1 ⟨rfl, hw1⟩; obtain rfl := hw1.symm) | (refine ⟨trivial, ?_⟩; gi_at_call 46; refine (callsIn_wide.2 (recordsIn_any key text _)).mono ?_; rintro e w2 ⟨rfl, rfl⟩))
  obtain ⟨W0, hW0, bR0, bC, bK, bT, hsz, hB0⟩ : ∃ W0, W0 = ((((w.alloc (.cells #[.slice none 0 0, .int .i64 0, .int .i64 0] 36)).alloc (.cells #[.slice none 0 0, .int .i64 0, .int .i64 0] 36)).alloc (boxT key)).alloc (boxT text)) ∧
      W0.heap[w.heap.size]? = some (.cells #[.slice none 0 0, .int .i64 0, .int .i64 0] 36 (0, 0)) ∧ W0.heap[w.heap.size + 1]? = some (.cells #[.slice none 0 0, .int .i64 0, .int .i64 0] 36 (0, 0)) ∧ Boxed W0 (w.heap.size + 1 + 1) 9 (.string key) ∧ Boxed W0 (w.heap.size + 1 + 1 + 1) 9 (.string text) ∧ W0.heap.size = w.heap.size + 4 ∧ Below w.heap.size w W0 := by
    obtain ⟨w1, hw1⟩ : ∃ w1, w1 = w.alloc (.cells #[.slice none 0 0, .int .i64 0, .int .i64 0] 36) := ⟨_, rfl⟩
    have r1 : w1.heap[w.heap.size]? = some (.cells #[.slice none 0 0, .int .i64 0, .int .i64 0] 36 (0, 0)) := by rw [hw1]; exact heap_alloc_new _ _
    have s1 : w1.heap.size = w.heap.size + 1 := by rw [hw1]; simp
    have b1 : Below w.heap.size w w1 := by rw [hw1]; exact (Below.refl _ _).alloc (Nat.le_refl _) _
    obtain ⟨w2, hw2⟩ : ∃ w2, w2 = w1.alloc (.cells #[.slice none 0 0, .int .i64 0, .int .i64 0] 36) := ⟨_, rfl⟩
    have r2 : w2.heap[w.heap.size + 1]? = some (.cells #[.slice none 0 0, .int .i64 0, .int .i64 0] 36 (0, 0)) := by rw [hw2, ← s1]; exact heap_alloc_new _ _
    have s2 : w2.heap.size = w.heap.size + 1 + 1 := by rw [hw2]; simp [s1]
    have b2 : Below w1.heap.size w1 w2 := by rw [hw2]; exact (Below.refl _ _).alloc (Nat.le_refl _) _
    have q1 := (b2.block _ (heap_lt r1)).trans r1
    have bK := (Boxed.new w2 9 (.string key)).alloc (boxT text)
    have bT := Boxed.new (w2.alloc (boxT key)) 9 (.string text)
    have b3 : Below w2.heap.size w2 ((w2.alloc (boxT key)).alloc (boxT text)) := ((Below.refl _ _).alloc (Nat.le_refl _) _).alloc (by simp) _
    rw [World.size_alloc] at bT
    rw [s2] at bK bT
    rw [← hw1, ← hw2]
    exact ⟨_, rfl, (b3.block _ (heap_lt q1)).trans q1, (b3.block _ (heap_lt r2)).trans r2, bK, bT, by simp [s2], b1.trans ((b2.trans (b3.mono b2.size)).mono b1.size)⟩
  rw [← hW0]
  clear hW0 HK
  have h60 : (seqL key text).length ≤ 60 := seqF_length key text 60 _ 0
  refine wpIn_rangeFunc_ownH rfl (by omega) (gf := 68) (lb := #[.pointer (some ⟨w.heap.size + 1 + 1, 0, none⟩), .pointer (some ⟨w.heap.size + 1 + 1 + 1, 0, none⟩)]) rfl trivial (enters_of Tryd.func68 (by kernel_rfl) rfl)
    (records_stops 4 w.heap.size (w.heap.size + 2) key text (w.heap.size + 1 + 1) (w.heap.size + 1 + 1 + 1) W0 (by omega) hk ht (hT.up hB0) hT.lt (by omega) (by omega) (by omega) bK.cell bT.cell) Kc.trans (fun W l' o o' hl ho hc _ => Kc.put o' (by omega) ho hc) (Below.refl _ _) (fun _ => rfl)
    (fun pre W => (∃ v, Grw w.heap.size W0.heap.size w (w.heap.size + 1) #[v, .int .i64 (placeOf key text pre), .int .i64 0] 36 9 1 (recsOf key text pre).length ((recsOf key text pre).map Value.string) v W) ∧ W.heap[w.heap.size]? = some (.cells #[.slice none 0 0, .int .i64 0, .int .i64 0] 36 (0, 0)))
    (fun _ _ _ => False)
    (OwnFrom.and (Grw.own (Nat.le_refl _) (by omega) (fun pre => (recsOf key text pre).length) (fun pre => (recsOf key text pre).map Value.string) (fun pre v => #[v, .int .i64 (placeOf key text pre), .int .i64 0])) (fun _ X Y row hs hg hr => (hg.block _ (heap_lt hs) (fun e => by
      obtain ⟨_, o, ho, hc⟩ := hr _ e.symm
      rw [hs] at ho; cases ho; cases hc)).trans hs))
    (fun _ _ _ _ _ hs _ _ => hs)
    ⟨⟨_, ⟨bC, ⟨rfl, .inl ⟨rfl, rfl⟩⟩, fun _ => rfl, hB0⟩⟩, bR0⟩
    (fun x a' W => a' = { tmps := #[.string key, .string text, undef, undef, .pointer (some ⟨w.heap.size, 0, none⟩), .pointer (some ⟨w.heap.size + 1, 0, none⟩), .string ((seqL key text).getD x.1 (⟨#[]⟩, 0)).1, .int .i64 ((seqL key text).getD x.1 (⟨#[]⟩, 0)).2, .string key, .int .i64 (key.size : Int), .bool false, .bool false, .string text, .int .i64 (text.size : Int), .bool false, .bool false, undef, .string key, .bool true, .bool false, undef, .string key, .string text, .func (.func 68) #[] #[.pointer (some ⟨w.heap.size + 1 + 1, 0, none⟩), .pointer (some ⟨w.heap.size + 1 + 1 + 1, 0, none⟩)], .string ((seqL key text).getD x.1 (⟨#[]⟩, 0)).1, .int .i64 ((seqL key text).getD x.1 (⟨#[]⟩, 0)).2, undef, undef, undef, undef, undef, undef, undef, undef, undef], defers := [] })
    (fun x a' _ X Y row hs hg hr => hs)
    ?assign ?body ?done ?stop
  case assign =>
    rintro l' pre x W K ⟨⟨v1, hI⟩, hR⟩ hK
    dsimp only [encR] at hK ⊢
    generalize (seqL key text).getD x.1 (⟨#[]⟩, 0) = q at hK ⊢
    obtain ⟨r, i⟩ := q
    dsimp only at hK ⊢
    gi_wp2
    exact hK _ _ ((KeepsOthers.refl _).from _) (Kc.refl _ _ _) ⟨⟨_, hI⟩, hR⟩ rfl
  case body =>
    rintro l' pre x a' W hl ⟨lr, hlr⟩ ⟨⟨v1, hI⟩, hR⟩ rfl hlt
    have hWs : W0.heap.size ≤ W.heap.size := Nat.le_of_lt (Nat.lt_of_le_of_lt hl (heap_lt hlr))
    have hsn := recsOf_snoc key text pre x
    have hsp := placeOf_snoc key text pre x
    have hln : (recsOf key text pre).length ≤ 60 := by unfold recsOf; rw [List.length_map]; omega
    generalize recsOf key text pre = S0 at *
    generalize placeOf key text pre = p0 at *
    generalize (seqL key text).getD x.1 (⟨#[]⟩, 0) = q at *
    obtain ⟨r, i⟩ := q
    dsimp only at hsn hsp
    obtain ⟨p1, c1, hv1⟩ := own_shape hI.row
    subst hv1
    obtain ⟨i0, hi, hz0, hz1, hz2⟩ := info_parts infoS
    have hba : Below W.heap.size W (W.alloc (.cells #[.string r] 9)) := (Below.refl _ _).alloc (Nat.le_refl _) _
    have hIa := hI.up hI.below.size hba
    have HX : Hid (∀ v' w', After (W.alloc (.cells #[.string r] 9)) W0.heap.size 9 1 (.slice p1 S0.length c1) (S0.length + 1) (S0.map Value.string ++ [.string r]) v' w' →
        (w'.cell? ⟨w.heap.size + 1, 0, none⟩ = some (.slice p1 S0.length c1) ∧ w'.cell? ⟨w.heap.size + 1, 1, none⟩ = some (.int .i64 p0) ∧ w'.frozen? ⟨w.heap.size + 1, 0, none⟩ = false ∧ w'.frozen? ⟨w.heap.size + 1, 1, none⟩ = false) ∧
        (KeepsOthers W ((w'.setCell ⟨w.heap.size + 1, 0, none⟩ v').setCell ⟨w.heap.size + 1, 1, none⟩ (.int .i64 i)) ∧ Kc w.heap.size (w.heap.size + 2) W ((w'.setCell ⟨w.heap.size + 1, 0, none⟩ v').setCell ⟨w.heap.size + 1, 1, none⟩ (.int .i64 i)) ∧
        (∃ v, Grw w.heap.size W0.heap.size w (w.heap.size + 1) #[v, .int .i64 (placeOf key text (pre ++ [x])), .int .i64 0] 36 9 1 (recsOf key text (pre ++ [x])).length ((recsOf key text (pre ++ [x])).map Value.string) v ((w'.setCell ⟨w.heap.size + 1, 0, none⟩ v').setCell ⟨w.heap.size + 1, 1, none⟩ (.int .i64 i))) ∧ ((w'.setCell ⟨w.heap.size + 1, 0, none⟩ v').setCell ⟨w.heap.size + 1, 1, none⟩ (.int .i64 i)).heap[w.heap.size]? = some (.cells #[.slice none 0 0, .int .i64 0, .int .i64 0] 36 (0, 0)))) := fun v' w' hA => by
      have hG := hIa.app (by omega) (Nat.le_trans hI.below.size hba.size) (by omega) (by omega) hA
      have hS := (hG.set (by omega) (by omega) 0 v').set (by omega) (by omega) 1 (.int .i64 i)
      have hr2 := After.cell hIa.row hA (t := 36) (by decide) ((hba.block _ (heap_lt hR)).trans hR)
      refine ⟨⟨?_, ?_, frozen_of_row _ _ _ _ _ hG.box, frozen_of_row _ _ _ _ _ hG.box⟩, ?_, ?_, ⟨v', ?_⟩, ?_⟩
      · simp [World.cell?, hG.box]
      · simp [World.cell?, hG.box]
      · exact (((others_up hba).trans (After.others hIa.row hA)).trans (KeepsOthers.setCell _ _ _)).trans (KeepsOthers.setCell _ _ _)
      · exact (((Kc.up hba hI.below.size).trans (After.kc hIa.row (by decide) (by omega) (Nat.le_trans hI.below.size hba.size) hA)).trans (Kc.setLow _ (by omega) (by omega))).trans (Kc.setLow _ (by omega) (by omega))
      · rw [hsn, hsp, List.length_append, List.map_append]
        exact hS
      · rw [heap_setCell_other _ _ _ _ (by simp), heap_setCell_other _ _ _ _ (by simp)]
        exact hr2
    have hrow := hIa.row
    have HN : Hid (S0.length = 0 → (Value.slice p1 S0.length c1) = .slice none 0 0) := hI.nil
    have hc0 : W.cell? ⟨w.heap.size + 1, 0, none⟩ = some (.slice p1 S0.length c1) := by simp [World.cell?, hI.box]
    have hb3 : W0.heap.size ≤ (W.alloc (.cells #[.string r] 9)).heap.size := Nat.le_trans hWs hba.size
    clear hI hR hIa hba hsn hsp hlr
    gi_wp2_with (refine wpListIn_append_first _ rfl (.tmp 27) (.tmp 29) 23 rfl W0.heap.size 9 i0 (.string ⟨#[]⟩) 1 16 Tryd.underlying23 hi hz0 hz1 hz2 rfl (by decide) (.slice p1 S0.length c1) S0.length (S0.map Value.string) rfl hrow HN.out ⟨W.heap.size, 0, none⟩ 1 1 [.string r] rfl rfl (cell_one_new _ _ _) (by simp [Value.oneCell']) (by unfold maxLen; omega) (by omega) hb3 ?_; intro v' w' hA; obtain ⟨⟨e1, e2, e3, e4⟩, hFin⟩ := HX.out v' w' hA; obtain ⟨pv, cv, hv2⟩ := own_shape hA.own; subst hv2)
    exact ⟨hFin.1.from _, hFin.2.1, hFin.2.2⟩
  case done =>
    rintro D xs W hD rfl ⟨⟨v1, hI⟩, hR⟩ hK
    rw [recsOf_all, placeOf_all] at hI
    generalize readL macB key text = RL at *
    obtain ⟨l, i⟩ := RL
    dsimp only at hI ⊢
    obtain ⟨p1, c1, hv1⟩ := own_shape hI.row
    subst hv1
    have e0 : W.cell? ⟨w.heap.size + 1, 0, none⟩ = some (.slice p1 l.length c1) := by simp [World.cell?, hI.box]
    have e1 : W.cell? ⟨w.heap.size + 1, 1, none⟩ = some (.int .i64 i) := by simp [World.cell?, hI.box]
    have e2 : W.cell? ⟨w.heap.size + 1, 2, none⟩ = some (.int .i64 0) := by simp [World.cell?, hI.box]
    have r0 : W.cell? ⟨w.heap.size, 0, none⟩ = some (.slice none 0 0) := by simp [World.cell?, hR]
    have r1 : W.cell? ⟨w.heap.size, 1, none⟩ = some (.int .i64 0) := by simp [World.cell?, hR]
    have r2 : W.cell? ⟨w.heap.size, 2, none⟩ = some (.int .i64 0) := by simp [World.cell?, hR]
    have f0 : W.frozen? ⟨w.heap.size, 0, none⟩ = false := frozen_of_row _ _ _ _ _ hR
    have f1 : W.frozen? ⟨w.heap.size, 1, none⟩ = false := frozen_of_row _ _ _ _ _ hR
    have f2 : W.frozen? ⟨w.heap.size, 2, none⟩ = false := frozen_of_row _ _ _ _ _ hR
    gi_wp2
    have hq : ∀ j, W0.heap.size ≤ j → j ≠ w.heap.size := fun j hj e => by omega
    have g0 := heap_setCell_same W w.heap.size 0 _ _ (.slice p1 l.length c1) hR
    have g1 := heap_setCell_same _ w.heap.size 1 _ _ (.int .i64 i) g0
    have g2 := heap_setCell_same _ w.heap.size 2 _ _ (.int .i64 0) g1
    have hK' : (((W.setCell ⟨w.heap.size, 0, none⟩ (.slice p1 l.length c1)).setCell ⟨w.heap.size, 1, none⟩ (.int .i64 i)).setCell ⟨w.heap.size, 2, none⟩ (.int .i64 0)).heap[D]? = some (.deferred (some [])) := by
      rw [heap_setCell_other _ _ _ _ (hq D hD), heap_setCell_other _ _ _ _ (hq D hD), heap_setCell_other _ _ _ _ (hq D hD)]
      exact hK
    have hb : Below w.heap.size w (((W.setCell ⟨w.heap.size, 0, none⟩ (.slice p1 l.length c1)).setCell ⟨w.heap.size, 1, none⟩ (.int .i64 i)).setCell ⟨w.heap.size, 2, none⟩ (.int .i64 0)) := ((hI.below.setCell (p := ⟨w.heap.size, 0, none⟩) (Nat.le_refl _) _).setCell (p := ⟨w.heap.size, 1, none⟩) (Nat.le_refl _) _).setCell (p := ⟨w.heap.size, 2, none⟩) (Nat.le_refl _) _
    have ho : (((W.setCell ⟨w.heap.size, 0, none⟩ (.slice p1 l.length c1)).setCell ⟨w.heap.size, 1, none⟩ (.int .i64 i)).setCell ⟨w.heap.size, 2, none⟩ (.int .i64 0)).ownsRow w.heap.size 9 1 (.slice p1 l.length c1) l.length (l.map Value.string) := own_le (lm.row_set (lm.row_set (lm.row_set hI.row (by omega)) (by omega)) (by omega)) (by omega)
    refine ⟨by simp, .inl ⟨_, _, rfl, run_takeDeferred hK', ?_⟩⟩
    have hD2 := heap_lt hK'
    refine ⟨_, results_cell_row Tryd.results14 _ _ w.heap.size _ _ _ _ rfl (((grownBy_putObj' _ D _).block _ (heap_lt g2) (by simp; omega)).trans g2) Tryd.underlying36 rfl infoR, .slice p1 l.length c1, rfl, hb.grown (grownBy_putObj' _ D _) hb.size (fun k e => by cases e; omega), own_kept ho (grownBy_putObj' _ D _) (fun r e => by cases e; exact ⟨_, hK', rfl⟩)⟩
  case stop =>
    rintro D c pre W _ _ h _
    exact h.elim
set_option maxRecDepth 20000 in
set_option maxHeartbeats 8000000 in
theorem readI_any (key text : ByteArray) (w : World) (hk : key.size ≤ maxLen) (ht : text.size ≤ maxLen) (hT : Tab w) :
    Calls Tryd.prog 14 #[.string key, .string text] w (ReadPost w (logR macB key text)) := by
  by_cases h0 : 8000 < key.size ∨ 8000 < text.size
  · rw [logR_size h0]
    obtain ⟨hg, HP⟩ := readM_stop w 2
    unfold maxLen at hk ht
    by_cases h1 : 8000 < key.size
    · have d1 : decide (8000 < (key.size : Int)) = true := decide_eq_true (by omega)
      go_enter Tryd.func14, Tryd.ntmps14
      go_wp2
      exact bodyPost_ret (results_cell_row Tryd.results14 _ _ w.heap.size _ _ _ _ rfl hg Tryd.underlying36 rfl infoR) rfl HP
    · have d1 : decide (8000 < (key.size : Int)) = false := decide_eq_false (by omega)
      have d2 : decide (8000 < (text.size : Int)) = true := decide_eq_true (by omega)
      go_enter Tryd.func14, Tryd.ntmps14
      go_wp2
      exact bodyPost_ret (results_cell_row Tryd.results14 _ _ w.heap.size _ _ _ _ rfl hg Tryd.underlying36 rfl infoR) rfl HP
  · by_cases h : KeyL key
    · rw [logR_yes h (by omega)]
      exact readI_yes key text w h (by omega) hT
    · have HK : Hid (∀ u, Calls Tryd.prog 34 #[.string key] u fun e w' => e = .returned (.bool false) ∧ w' = u) := fun u => keyI_no key u hk h
      rw [logR_form h0 h]
      obtain ⟨hg, HP⟩ := readM_stop w 1
      unfold maxLen at hk ht
      have d1 : decide (8000 < (key.size : Int)) = false := decide_eq_false (by omega)
      have d2 : decide (8000 < (text.size : Int)) = false := decide_eq_false (by omega)
      clear h h0
      go_enter Tryd.func14, Tryd.ntmps14
      go_wp2_with (go_at_call 34; (with_reducible refine (HK.out _).mono ?_); rintro r w' ⟨rfl, hw'⟩; obtain rfl := hw'.symm)
      exact bodyPost_ret (results_cell_row Tryd.results14 _ _ w.heap.size _ _ _ _ rfl hg Tryd.underlying36 rfl infoR) rfl HP
end Go.Proofs.YtcfekhahibklfaaDoor.li
