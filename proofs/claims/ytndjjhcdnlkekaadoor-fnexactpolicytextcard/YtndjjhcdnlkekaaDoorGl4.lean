/-
  The program's behindMark and GlobFits: a row of 61 bools. No condition.
-/
import Derived.Test.YtndjjhcdnlkekaaDoorGl3
import Derived.Test.YtndjjhcdnlkekaaDoorRegW
import Derived.Laws.Tables
import Derived.Laws.CopyOwn
namespace Go.Proofs.YtndjjhcdnlkekaaDoor.gb
open Go.ChangeShapes Go.WideShapes Go.ChangeAt Go.RowKit
open Go.Proofs.YtndjjhcdnlkekaaDoor.wi (heap_lt calls_w wp_w)
open Classical
set_option linter.unusedVariables false

/-- a row of bools, its first k set -/
def rowTo (F : Nat → Bool) (n k : Nat) : List Bool := (List.range n).map fun j => decide (j < k) && F j
def bcells (L : List Bool) : Array Value := (L.map Value.bool).toArray
theorem rowTo_len (F : Nat → Bool) (n k : Nat) : (rowTo F n k).length = n := by simp [rowTo]
theorem rowTo_get (F : Nat → Bool) {n j : Nat} (k : Nat) (h : j < n) : (rowTo F n k).getD j false = (decide (j < k) && F j) := by
  rw [List.getD_eq_getElem?_getD, List.getElem?_eq_getElem (by rw [rowTo_len]; exact h)]
  simp [rowTo]
theorem rowTo_set (F : Nat → Bool) {n k : Nat} (h : k < n) : (rowTo F n k).set k (F k) = rowTo F n (k + 1) := by
  apply List.ext_getElem
  · simp [rowTo]
  · intro i h1 h2
    rw [List.getElem_set]
    by_cases e : k = i
    · subst e; simp [rowTo]
    · rw [if_neg e]
      simp only [rowTo, List.getElem_map, List.getElem_range]
      congr 1
      rw [decide_eq_decide]; omega
theorem rowTo_skip (F : Nat → Bool) {n k : Nat} (h : F k = false) : rowTo F n (k + 1) = rowTo F n k := by
  apply List.ext_getElem
  · simp [rowTo]
  · intro i h1 h2
    simp only [rowTo, List.getElem_map, List.getElem_range]
    by_cases e : i = k
    · subst e; simp [h]
    · congr 1
      rw [decide_eq_decide]; omega
theorem rowTo_none (F : Nat → Bool) (n : Nat) : rowTo F n 0 = List.replicate n false := by
  apply List.ext_getElem
  · simp [rowTo]
  · intro i h1 h2; simp [rowTo]
theorem bcells_set (L : List Bool) (k : Nat) (b : Bool) : (bcells L).setIfInBounds k (.bool b) = bcells (L.set k b) := by
  unfold bcells
  rw [List.setIfInBounds_toArray, List.map_set]
/-- a block that holds these bools -/
def BBlk (u : World) (g : Nat) (T : TypeId) (L : List Bool) : Prop := u.heap[g]? = some (.cells (bcells L) T (0, 0))
theorem BBlk.lt {u : World} {g : Nat} {T : TypeId} {L : List Bool} (h : BBlk u g T L) : g < u.heap.size := heap_lt h
theorem BBlk.up {u u' : World} {g : Nat} {T : TypeId} {L : List Bool} (h : BBlk u g T L) (hb : Below u.heap.size u u') : BBlk u' g T L := (hb.block _ (heap_lt h)).trans h
theorem BBlk.cell {u : World} {g : Nat} {T : TypeId} {L : List Bool} (h : BBlk u g T L) (k : Nat) (hk : k < L.length) : u.cell? ⟨g, k, none⟩ = some (.bool (L.getD k false)) := by
  simp [World.cell?, show u.heap[g]? = some (.cells (bcells L) T (0, 0)) from h, bcells, List.getElem?_eq_getElem hk]
theorem BBlk.frozen {u : World} {g : Nat} {T : TypeId} {L : List Bool} (h : BBlk u g T L) (k : Nat) : u.frozen? ⟨g, k, none⟩ = false := frozen_of_row _ _ _ _ _ h
theorem BBlk.set {u : World} {g : Nat} {T : TypeId} {L : List Bool} (h : BBlk u g T L) (k : Nat) (b : Bool) : BBlk (u.setCell ⟨g, k, none⟩ (.bool b)) g T (L.set k b) := by
  refine (heap_setCell_same u _ _ _ _ _ h).trans ?_
  rw [bcells_set]
theorem BBlk.new (w : World) (T : TypeId) (L : List Bool) : BBlk (w.alloc (.cells (bcells L) T)) w.heap.size T L := heap_alloc_new _ _

/-- behindMark at work: its argument's block, its answer's, its row's -/
structure InB (w : World) (A L : List Bool) (u : World) : Prop where
  b : Below w.heap.size w u
  a : BBlk u w.heap.size 66 A
  r : BBlk u (w.heap.size + 1) 66 (List.replicate 61 false)
  x : BBlk u (w.heap.size + 1 + 1) 66 L
theorem InB.set {w u : World} {A L : List Bool} (h : InB w A L u) (k : Nat) (z : Bool) : InB w A (L.set k z) (u.setCell ⟨w.heap.size + 1 + 1, k, none⟩ (.bool z)) :=
  ⟨h.b.setCell (by show _ ≤ w.heap.size + 1 + 1; omega) _, (heap_setCell_other _ _ _ _ (by show w.heap.size ≠ w.heap.size + 1 + 1; omega)).trans h.a, (heap_setCell_other _ _ _ _ (by show w.heap.size + 1 ≠ w.heap.size + 1 + 1; omega)).trans h.r, h.x.set k z⟩
theorem InB.new (w : World) (A L : List Bool) : InB w A L (((w.alloc (.cells (bcells A) 66)).alloc (.cells (bcells (List.replicate 61 false)) 66)).alloc (.cells (bcells L) 66)) := by
  have z1 : (w.alloc (.cells (bcells A) 66)).heap.size = w.heap.size + 1 := by simp
  have z2 : ((w.alloc (.cells (bcells A) 66)).alloc (.cells (bcells (List.replicate 61 false)) 66)).heap.size = w.heap.size + 1 + 1 := by simp
  have b0 := rw.up_alloc ((w.alloc (.cells (bcells A) 66)).alloc (.cells (bcells (List.replicate 61 false)) 66)) (.cells (bcells L) 66)
  refine ⟨(((Below.refl _ _).alloc (Nat.le_refl _) _).alloc (by simp) _).alloc (by simp; omega) _, ?_, ?_, ?_⟩
  · exact ((BBlk.new w _ A).up (rw.up_alloc _ _)).up b0
  · have := BBlk.new (w.alloc (.cells (bcells A) 66)) 66 (List.replicate 61 false)
    rw [z1] at this
    exact this.up b0
  · have := BBlk.new ((w.alloc (.cells (bcells A) 66)).alloc (.cells (bcells (List.replicate 61 false)) 66)) 66 L
    rw [z2] at this
    exact this
theorem rowTo_one (F : Nat → Bool) : rowTo F 61 1 = F 0 :: List.replicate 60 false := by
  apply List.ext_getElem
  · simp [rowTo]
  · intro i h1 h2
    cases i with
    | zero => simp [rowTo]
    | succ i => rw [List.getElem_cons_succ, List.getElem_replicate]; simp [rowTo]
theorem infoB : (Tryd.prog.info? 66).map (·.size) = some 61 := by kernel_rfl
theorem infoL (L : List Bool) (h : L.length = 61) : (Tryd.prog.info? 66).map (·.size) = some (bcells L).size := infoB.trans (congrArg some (by simp [bcells, h]))
theorem bcells_one (L : List Bool) : (bcells L).all (·.oneCell') = true := by
  rw [Array.all_eq_true]
  intro i hi
  simp [bcells, Value.oneCell']
set_option maxHeartbeats 4000000 in
set_option maxRecDepth 100000 in
theorem behind_star (F : Nat → Bool) (t : ByteArray) (w : World) (ht : t.size ≤ 60) :
    Calls Tryd.prog 47 #[.agg (bcells (rowTo F 61 (t.size + 1))), .int .u8 42, .string t] w fun e w' => e = .returned (.agg (bcells (rowTo (stepB 42 (bat t) F) 61 (t.size + 1)))) ∧ Below w.heap.size w w' := by
  have hc0 : ∀ o1 o2, (((w.alloc (.cells (bcells (rowTo F 61 (t.size + 1))) 66)).alloc o1).alloc o2).cell? ⟨w.heap.size, 0, none⟩ = some (.bool (F 0)) := fun o1 o2 => by
    have := (((BBlk.new w 66 (rowTo F 61 (t.size + 1))).up (rw.up_alloc _ o1)).up (rw.up_alloc _ o2)).cell 0 (by rw [rowTo_len]; omega)
    rw [rowTo_get F (t.size + 1) (by omega)] at this
    simpa using this
  obtain ⟨G, hG⟩ : ∃ G, G = stepB 42 (bat t) F := ⟨_, rfl⟩
  have HG0 : Hid (G 0 = F 0) := by rw [hG]; exact stepB_star0 _ _
  have HGs : Hid (∀ k, G (k + 1) = (F (k + 1) || G k)) := fun k => by rw [hG]; exact stepB_star _ _ _
  rw [← hG]
  clear hG
  obtain ⟨LA, hLA⟩ : ∃ LA, LA = rowTo F 61 (t.size + 1) := ⟨_, rfl⟩
  have HLA : Hid (∀ j, j < t.size + 1 → LA.getD j false = F j) := fun j hj => by rw [hLA, rowTo_get F _ (by omega), decide_eq_true hj]; rfl
  have HLn : Hid (LA.length = 61) := by rw [hLA]; exact rowTo_len _ _ _
  have HI : Hid (InB w LA (F 0 :: List.replicate 60 false) _) := InB.new w LA (F 0 :: List.replicate 60 false)
  have HO : Hid (rowTo G 61 1 = F 0 :: List.replicate 60 false) := by rw [← HG0.out]; exact rowTo_one G
  rw [← hLA] at hc0 ⊢
  clear hLA
  obtain ⟨A, hA⟩ : ∃ A, A = bcells LA := ⟨_, rfl⟩
  rw [← hA] at hc0 HI ⊢
  have HA : Hid (A = bcells LA) := hA
  clear hA
  obtain ⟨f0, hf0⟩ : ∃ f0, f0 = F 0 := ⟨_, rfl⟩
  rw [← hf0] at hc0 HI HO
  clear hf0 HG0
  cases f0
  all_goals
    go_enter Tryd.func47, Tryd.ntmps47
    go_wp2_with fail
    refine wp_w (InB w LA (rowTo G 61 1)) (by rw [HO.out]; exact HI.out) ?_
    clear HI HO hc0 HA
    intro u0 i0
    go_loopw [18] (fun i u => ∃ k : Nat, k ≤ t.size ∧ i = .int .i64 k ∧ Hid (InB w LA (rowTo G 61 (k + 1)) u)) (fun i _ => t.size - (intOf i).toNat)
    case atStart => exact ⟨0, Nat.zero_le _, rfl, i0⟩
    case round =>
      clear i0
      obtain ⟨k, hk, rfl, HU⟩ := hrel
      by_cases hlt : k < t.size
      · have ca := HU.out.a.cell (k + 1) (by rw [HLn.out]; omega)
        have cx := HU.out.x.cell k (by rw [rowTo_len]; omega)
        have cy := HU.out.x.cell (k + 1) (by rw [rowTo_len]; omega)
        have hf := HU.out.x.frozen (k + 1)
        rw [HLA.out (k + 1) (by omega)] at ca
        rw [rowTo_get G _ (by omega), decide_eq_true (by omega)] at cx
        have HN : Hid (∀ z, z = (F (k + 1) || G k) → InB w LA (rowTo G 61 (k + 1 + 1)) (wr.setCell ⟨w.heap.size + 1 + 1, k + 1, none⟩ (.bool z))) := fun z hz => by
          have := HU.out.set (k + 1) z
          rw [hz, ← HGs.out k, rowTo_set G (show k + 1 < 61 by omega)] at this
          rw [hz, ← HGs.out k]
          exact this
        generalize (rowTo G 61 (k + 1)).getD (k + 1) false = y at cy
        simp only [Bool.true_and] at cx
        generalize G k = g at cx HN
        generalize F (k + 1) = f at ca HN
        clear HU
        cases f
        all_goals
          go_wp2
          exact ⟨⟨k + 1, by omega, by go_num, HN.out _ (by simp)⟩, by simp [intOf]; omega⟩
      · obtain rfl : k = t.size := by omega
        have hrow := HU.out.x
        have hres := HU.out.r
        unfold BBlk at hrow hres
        have HB : Hid (Below w.heap.size w wr) := HU.out.b
        clear HU
        go_wp2_with (first | (refine wpList_load_row rfl 66 _ rfl (w.heap.size + 1 + 1) rfl _ _ _ _ hrow Tryd.underlying66 rfl (infoL _ (rowTo_len _ _ _)) ?_) | (refine wpList_store_row rfl 66 _ _ rfl (w.heap.size + 1) _ rfl rfl _ _ hres (infoL _ (rowTo_len _ _ _)) (by simp [bcells, rowTo_len]) (bcells_one _) ?_))
        exact bodyPost_ret (results_cell_row Tryd.results47 _ _ (w.heap.size + 1) _ _ _ _ rfl (setRow_heap _ _ _ _ _ _ hres) Tryd.underlying66 rfl (infoL _ (rowTo_len _ _ _))) rfl ⟨rfl, below_setRow HB.out (by omega) _⟩
set_option maxHeartbeats 4000000 in
set_option maxRecDepth 100000 in
theorem behind_no (F : Nat → Bool) (c : Nat) (t : ByteArray) (w : World) (ht : t.size ≤ 60) (hc : c ≠ 42) :
    Calls Tryd.prog 47 #[.agg (bcells (rowTo F 61 (t.size + 1))), .int .u8 c, .string t] w fun e w' => e = .returned (.agg (bcells (rowTo (stepB c (bat t) F) 61 (t.size + 1)))) ∧ Below w.heap.size w w' := by
  have hc0 : ∀ o1 o2, (((w.alloc (.cells (bcells (rowTo F 61 (t.size + 1))) 66)).alloc o1).alloc o2).cell? ⟨w.heap.size, 0, none⟩ = some (.bool (F 0)) := fun o1 o2 => by
    have := (((BBlk.new w 66 (rowTo F 61 (t.size + 1))).up (rw.up_alloc _ o1)).up (rw.up_alloc _ o2)).cell 0 (by rw [rowTo_len]; omega)
    rw [rowTo_get F (t.size + 1) (by omega)] at this
    simpa using this
  obtain ⟨G, hG⟩ : ∃ G, G = stepB c (bat t) F := ⟨_, rfl⟩
  have HG0 : Hid (G 0 = false) := by rw [hG]; exact stepB_no0 hc _ _
  have HG1 : Hid (∀ k, c = 63 ∨ c = bat t k → G (k + 1) = F k) := fun k h => by rw [hG]; exact stepB_one hc h _
  have HG2 : Hid (∀ k, c ≠ 63 → c ≠ bat t k → G (k + 1) = false) := fun k h h' => by rw [hG]; exact stepB_no hc h h' _
  rw [← hG]
  clear hG
  obtain ⟨LA, hLA⟩ : ∃ LA, LA = rowTo F 61 (t.size + 1) := ⟨_, rfl⟩
  have HLA : Hid (∀ j, j < t.size + 1 → LA.getD j false = F j) := fun j hj => by rw [hLA, rowTo_get F _ (by omega), decide_eq_true hj]; rfl
  have HLn : Hid (LA.length = 61) := by rw [hLA]; exact rowTo_len _ _ _
  have HI : Hid (InB w LA (List.replicate 61 false) _) := InB.new w LA (List.replicate 61 false)
  have HO : Hid (rowTo G 61 1 = List.replicate 61 false) := by
    have := rowTo_one G
    rw [HG0.out] at this
    rw [this]; rfl
  rw [← hLA] at hc0 ⊢
  clear hLA
  obtain ⟨A, hA⟩ : ∃ A, A = bcells LA := ⟨_, rfl⟩
  rw [← hA] at hc0 HI ⊢
  have HA : Hid (A = bcells LA) := hA
  clear hA
  obtain ⟨f0, hf0⟩ : ∃ f0, f0 = F 0 := ⟨_, rfl⟩
  rw [← hf0] at hc0
  clear hf0 HG0
  have hq : ((c : Int) == 42) = false := beq_eq_false_iff_ne.2 (by omega)
  cases f0
  all_goals
    go_enter Tryd.func47, Tryd.ntmps47
    go_wp2_with fail
    refine wp_w (InB w LA (rowTo G 61 1)) (by rw [HO.out]; exact HI.out) ?_
    clear HI HO hc0 HA
    intro u0 i0
    go_loopw [18] (fun i u => ∃ k : Nat, k ≤ t.size ∧ i = .int .i64 k ∧ Hid (InB w LA (rowTo G 61 (k + 1)) u)) (fun i _ => t.size - (intOf i).toNat)
    case atStart => exact ⟨0, Nat.zero_le _, rfl, i0⟩
    case round =>
      clear i0
      obtain ⟨k, hk, rfl, HU⟩ := hrel
      by_cases hlt : k < t.size
      · have ca := HU.out.a.cell k (by rw [HLn.out]; omega)
        have cy := HU.out.x.cell (k + 1) (by rw [rowTo_len]; omega)
        have hf := HU.out.x.frozen (k + 1)
        rw [HLA.out k (by omega)] at ca
        have HN : Hid (G (k + 1) = F k → InB w LA (rowTo G 61 (k + 1 + 1)) (wr.setCell ⟨w.heap.size + 1 + 1, k + 1, none⟩ (.bool (F k)))) := fun hz => by
          have := HU.out.set (k + 1) (F k)
          rw [← hz, rowTo_set G (show k + 1 < 61 by omega)] at this
          rw [← hz]
          exact this
        have HN2 : Hid (G (k + 1) = false → InB w LA (rowTo G 61 (k + 1 + 1)) wr) := fun hz => by rw [rowTo_skip G hz]; exact HU.out
        have e1 := bat_eq hlt
        generalize (rowTo G 61 (k + 1)).getD (k + 1) false = y at cy
        by_cases h63 : c = 63
        · have HN3 := HN.out (HG1.out k (.inl h63))
          have h2 : ((c : Int) == 63) = true := beq_iff_eq.2 (by omega)
          generalize F k = f at ca HN3
          clear HU HN HN2 e1 h63
          have HN4 : Hid _ := HN3
          clear HN3
          go_wp2
          exact ⟨⟨k + 1, by omega, by go_num, HN4.out⟩, by simp [intOf]; omega⟩
        · have h2 : ((c : Int) == 63) = false := beq_eq_false_iff_ne.2 (by omega)
          by_cases hb : c = bat t k
          · have HN3 := HN.out (HG1.out k (.inr hb))
            have h3 : ((c : Int) == ((t[k]'hlt).toNat : Int)) = true := beq_iff_eq.2 (by omega)
            generalize F k = f at ca HN3
            clear HU HN HN2 e1 h63 hb
            have HN4 : Hid _ := HN3
            clear HN3
            go_wp2
            exact ⟨⟨k + 1, by omega, by go_num, HN4.out⟩, by simp [intOf]; omega⟩
          · have HN4 : Hid _ := HN2.out (HG2.out k h63 hb)
            have h3 : ((c : Int) == ((t[k]'hlt).toNat : Int)) = false := beq_eq_false_iff_ne.2 (by omega)
            clear HU HN HN2 e1 h63 hb ca cy hf
            go_wp2
            exact ⟨⟨k + 1, by omega, by go_num, HN4.out⟩, by simp [intOf]; omega⟩
      · obtain rfl : k = t.size := by omega
        have hrow := HU.out.x
        have hres := HU.out.r
        unfold BBlk at hrow hres
        have HB : Hid (Below w.heap.size w wr) := HU.out.b
        clear HU
        go_wp2_with (first | (refine wpList_load_row rfl 66 _ rfl (w.heap.size + 1 + 1) rfl _ _ _ _ hrow Tryd.underlying66 rfl (infoL _ (rowTo_len _ _ _)) ?_) | (refine wpList_store_row rfl 66 _ _ rfl (w.heap.size + 1) _ rfl rfl _ _ hres (infoL _ (rowTo_len _ _ _)) (by simp [bcells, rowTo_len]) (bcells_one _) ?_))
        exact bodyPost_ret (results_cell_row Tryd.results47 _ _ (w.heap.size + 1) _ _ _ _ rfl (setRow_heap _ _ _ _ _ _ hres) Tryd.underlying66 rfl (infoL _ (rowTo_len _ _ _))) rfl ⟨rfl, below_setRow HB.out (by omega) _⟩
theorem behind_any (F : Nat → Bool) (c : Nat) (t : ByteArray) (w : World) (ht : t.size ≤ 60) :
    Calls Tryd.prog 47 #[.agg (bcells (rowTo F 61 (t.size + 1))), .int .u8 c, .string t] w fun e w' => e = .returned (.agg (bcells (rowTo (stepB c (bat t) F) 61 (t.size + 1)))) ∧ Below w.heap.size w w' := by
  by_cases h : c = 42
  · subst h; exact behind_star F t w ht
  · exact behind_no F c t w ht h
end Go.Proofs.YtndjjhcdnlkekaaDoor.gb
