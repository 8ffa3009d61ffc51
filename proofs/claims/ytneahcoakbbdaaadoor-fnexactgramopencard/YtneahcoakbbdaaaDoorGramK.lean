/-
  The program's GramOpen at every key and text: what the plain function tells; no old block turns. Conditions: the two tables and the four errors lie in their variables.
-/
import Derived.Test.YtneahcoakbbdaaaDoorGramJ
import Derived.Deep.RegionWith
namespace Go.Proofs.YtneahcoakbbdaaaDoor.gm
open Go.ChangeShapes Go.WideShapes Go.ChangeAt Go.RowKit
open Go.Proofs.YtneahcoakbbdaaaDoor.wi (RightG gramI_any gramM_any heap_lt wp_w calls_w)
open Go.Proofs.YtneahcoakbbdaaaDoor.np (getV numV)
open Classical
set_option linter.unusedVariables false

theorem opened_any (key text : ByteArray) (w : World) (hk : key.size ≤ 8000) (ht : text.size ≤ 8000) {a1 a2 a3 a4 : Addr} (hE : ei.Errs w a1 a2 a3 a4) (hT : cc.Both w) :
    Calls Tryd.prog 44 #[.string key, .string text] w (OpPost w (openG key text)) := by
  have hsz : ¬ (8000 < key.size ∨ 8000 < text.size) := by omega
  by_cases h1 : KeyR key
  · obtain ⟨n, a, c, hg⟩ : ∃ n a c, getV text 0 = (n, a, c) := ⟨_, _, _, rfl⟩
    by_cases hc : c = 0
    · subst hc
      by_cases h2 : 0 ≤ n ∧ n ≤ 804401
      · obtain ⟨T, c, ho⟩ : ∃ T c, cc.openA key n (text.extract a.toNat text.size) = (T, c) := ⟨_, _, rfl⟩
        exact opened_box key text w hk ht hE hT h1 n a hg h2 T c ho
      · rw [openG_num hsz h1 hg (fun h => h2 h.2)]
        exact opened_num key text w hk ht hE h1 n a hg h2
    · rw [openG_num hsz h1 hg (fun h => hc h.1)]
      exact opened_err key text w hk ht hE h1 n a c hg hc
  · rw [openG_key hsz h1]
    exact opened_key key text w hk ht hE h1

theorem infoGO : (Tryd.prog.info? 32).map (·.size) = some 5 := by kernel_rfl
def outG (A : (Int × Int × Int × ByteArray) × Int) : Value := .agg #[.int .i64 A.1.1, .int .i64 A.1.2.1, .int .i64 A.1.2.2.1, .string A.1.2.2.2, .int .i64 A.2]
/-- the answer's block, as it is made -/
def InR (w u : World) : Prop := Below w.heap.size w u ∧ u.heap[w.heap.size]? = some (.cells #[.int .i64 0, .int .i64 0, .int .i64 0, .string ⟨#[]⟩, .int .i64 0] 32 (0, 0))
theorem InR.up {w u u' : World} (h : InR w u) (hb : Below u.heap.size u u') : InR w u' := ⟨h.1.trans (hb.mono h.1.size), (hb.block _ (heap_lt h.2)).trans h.2⟩
theorem inR_start (w : World) : InR w (w.alloc (.cells #[.int .i64 0, .int .i64 0, .int .i64 0, .string ⟨#[]⟩, .int .i64 0] 32)) := ⟨(Below.refl _ _).alloc (Nat.le_refl _) _, heap_alloc_new _ _⟩
/-- where the answer is put together -/
structure InRG (w : World) (g : Nat) (s e c : Int) (b : ByteArray) (u : World) : Prop where
  base : InR w u
  gram : u.heap[g]? = some (.cells #[.int .i64 s, .int .i64 e, .int .i64 c, .string b] 28 (0, 0))
theorem InRG.up {w u u' : World} {g : Nat} {s e c : Int} {b : ByteArray} (h : InRG w g s e c b u) (hb : Below u.heap.size u u') : InRG w g s e c b u' := ⟨h.base.up hb, (hb.block _ (heap_lt h.gram)).trans h.gram⟩
theorem InRG.drew {w u : World} {g : Nat} {s e c : Int} {b : ByteArray} (h : InRG w g s e c b u) : InRG w g s e c b u.drew := ⟨⟨h.base.1.drew, h.base.2⟩, h.gram⟩
theorem InRG.cells {w u : World} {g : Nat} {s e c : Int} {b : ByteArray} (h : InRG w g s e c b u) :
    (u.cell? ⟨g, 0, none⟩ = some (.int .i64 s) ∧ u.cell? ⟨g, 1, none⟩ = some (.int .i64 e) ∧ u.cell? ⟨g, 2, none⟩ = some (.int .i64 c) ∧ u.cell? ⟨g, 3, none⟩ = some (.string b)) ∧
    (u.cell? ⟨w.heap.size, 0, none⟩ = some (.int .i64 0) ∧ u.cell? ⟨w.heap.size, 1, none⟩ = some (.int .i64 0) ∧ u.cell? ⟨w.heap.size, 2, none⟩ = some (.int .i64 0) ∧ u.cell? ⟨w.heap.size, 3, none⟩ = some (.string ⟨#[]⟩) ∧ u.cell? ⟨w.heap.size, 4, none⟩ = some (.int .i64 0)) ∧
    (u.frozen? ⟨w.heap.size, 0, none⟩ = false ∧ u.frozen? ⟨w.heap.size, 1, none⟩ = false ∧ u.frozen? ⟨w.heap.size, 2, none⟩ = false ∧ u.frozen? ⟨w.heap.size, 3, none⟩ = false ∧ u.frozen? ⟨w.heap.size, 4, none⟩ = false) := by
  have r := h.base.2
  refine ⟨⟨?_, ?_, ?_, ?_⟩, ⟨?_, ?_, ?_, ?_, ?_⟩, frozen_of_row _ _ _ _ _ r, frozen_of_row _ _ _ _ _ r, frozen_of_row _ _ _ _ _ r, frozen_of_row _ _ _ _ _ r, frozen_of_row _ _ _ _ _ r⟩ <;> simp [World.cell?, h.gram, r]
theorem set5 {u : World} {q : Nat} {a b c d e x y z k m : Value} {T : TypeId} (h : u.heap[q]? = some (.cells #[a, b, c, d, e] T (0, 0))) : (((((u.setCell ⟨q, 0, none⟩ x).setCell ⟨q, 1, none⟩ y).setCell ⟨q, 2, none⟩ z).setCell ⟨q, 3, none⟩ k).setCell ⟨q, 4, none⟩ m).heap[q]? = some (.cells #[x, y, z, k, m] T (0, 0)) := by
  have h1 := heap_setCell_same u q 0 _ _ x h
  have h2 := heap_setCell_same _ q 1 _ _ y h1
  have h3 := heap_setCell_same _ q 2 _ _ z h2
  have h4 := heap_setCell_same _ q 3 _ _ k h3
  have h5 := heap_setCell_same _ q 4 _ _ m h4
  exact h5
theorem below_set5 {w u : World} {q : Nat} {x y z k m : Value} (h : Below w.heap.size w u) (hq : w.heap.size ≤ q) : Below w.heap.size w (((((u.setCell ⟨q, 0, none⟩ x).setCell ⟨q, 1, none⟩ y).setCell ⟨q, 2, none⟩ z).setCell ⟨q, 3, none⟩ k).setCell ⟨q, 4, none⟩ m) := ((((h.setCell hq _).setCell hq _).setCell hq _).setCell hq _).setCell hq _

set_option maxHeartbeats 8000000 in
theorem openI_any (key text : ByteArray) (w : World) (hk : key.size ≤ maxLen) (ht : text.size ≤ maxLen) {a1 a2 a3 a4 : Addr} (hE : ei.Errs w a1 a2 a3 a4) (hT : cc.Both w) :
    Calls Tryd.prog 14 #[.string key, .string text] w fun r w' => r = .returned (outG (openG key text)) ∧ Below w.heap.size w w' := by
  unfold maxLen at hk ht
  by_cases h1 : 8000 < key.size
  · rw [openG_size (.inl h1)]
    have HI : Hid (InR w (w.alloc (.cells #[.int .i64 0, .int .i64 0, .int .i64 0, .string ⟨#[]⟩, .int .i64 0] 32))) := inR_start w
    go_enter Tryd.func14, Tryd.ntmps14
    go_wp2
    exact bodyPost_ret (results_cell_row Tryd.results14 _ _ w.heap.size _ _ _ _ rfl (heap_alloc_new _ _) Tryd.underlying32 rfl infoGO) rfl ⟨rfl, (Below.refl _ _).alloc (Nat.le_refl _) _⟩
  · by_cases h2 : 8000 < text.size
    · rw [openG_size (.inr h2)]
      go_enter Tryd.func14, Tryd.ntmps14
      go_wp2
      exact bodyPost_ret (results_cell_row Tryd.results14 _ _ w.heap.size _ _ _ _ rfl (heap_alloc_new _ _) Tryd.underlying32 rfl infoGO) rfl ⟨rfl, (Below.refl _ _).alloc (Nat.le_refl _) _⟩
    · have HO : Hid (∀ u, Below w.heap.size w u → Calls Tryd.prog 44 #[.string key, .string text] u (OpPost u (openG key text))) := fun u hu => opened_any key text u (by omega) (by omega) (hE.up hu) (hT.up hu)
      clear hE hT
      obtain ⟨s, e, c, b, k, hA⟩ : ∃ s e c b k, openG key text = ((s, e, c, b), k) := ⟨_, _, _, _, _, rfl⟩
      rw [hA] at HO ⊢
      clear hA
      go_enter Tryd.func14, Tryd.ntmps14
      go_wp2_with (go_at_call 44; fail)
      refine calls_w (InR w) (inR_start w) ?_
      intro u0 i0
      refine (HO.out u0 i0.1).mono ?_
      rintro r w1 ⟨hb1, x, rfl, hwhy⟩
      have i1 := i0.up hb1
      have HW : Hid (∀ u', Below w1.heap.size w1 u' → Calls Tryd.prog 45 #[x] u' fun e' w' => e' = .returned (.int .i64 k) ∧ Below u'.heap.size u' w') := fun u' hu => hwhy u' (hb1.trans (hu.mono hb1.size))
      clear i0 hb1 hwhy HO
      go_wp2_with fail
      have i2 : InRG w w1.heap.size s e c b (w1.alloc (.cells #[.int .i64 s, .int .i64 e, .int .i64 c, .string b] 28)) := ⟨i1.up ((Below.refl _ _).alloc (Nat.le_refl _) _), heap_alloc_new _ _⟩
      have hm : w.heap.size < w1.heap.size := heap_lt i1.2
      have HW2 : Hid (∀ u', Below w1.heap.size w1 u' → Calls Tryd.prog 45 #[x] u' fun e' w' => e' = .returned (.int .i64 k) ∧ Below u'.heap.size u' w') := HW
      obtain ⟨g, hg⟩ : ∃ g, g = w1.heap.size := ⟨_, rfl⟩
      rw [← hg] at i2 hm ⊢
      refine wp_w (fun u => InRG w g s e c b u ∧ Below w1.heap.size w1 u) ⟨i2, (Below.refl _ _).alloc (Nat.le_refl _) _⟩ ?_
      clear i1 i2 hg HW
      rintro u2 ⟨i2, hb2⟩
      have n1 : ¬ w.heap.size = g := by omega
      have n2 : ¬ g = w.heap.size := by omega
      obtain ⟨⟨x0, x1, x2, x3⟩, ⟨y0, y1, y2, y3, y4⟩, ⟨f0, f1, f2, f3, f4⟩⟩ := i2.cells
      replace i2 := i2.drew
      replace hb2 := hb2.drew
      go_region_with (go_at_call 45; (with_reducible refine (HW2.out _ hb2).mono ?_); rintro r w3 ⟨rfl, hb3⟩; replace i2 := i2.up hb3; replace hb2 := hb2.trans (hb3.mono hb2.size); clear hb3 x0 x1 x2 x3 y0 y1 y2 y3 y4 f0 f1 f2 f3 f4; obtain ⟨⟨x0, x1, x2, x3⟩, ⟨y0, y1, y2, y3, y4⟩, ⟨f0, f1, f2, f3, f4⟩⟩ := i2.cells)
      all_goals
        have HI : Hid (InRG w g s e c b w3) := i2
        clear i2 hb2 x0 x1 x2 x3 y0 y1 y2 y3 y4 f0 f1 f2 f3 f4 HW2
        go_wp2
        exact bodyPost_ret (results_cell_row Tryd.results14 _ _ w.heap.size _ #[.int .i64 s, .int .i64 e, .int .i64 c, .string b, .int .i64 k] _ _ rfl (set5 HI.out.base.2) Tryd.underlying32 rfl infoGO) rfl ⟨rfl, below_set5 HI.out.base.1 (Nat.le_refl _)⟩
end Go.Proofs.YtneahcoakbbdaaaDoor.gm
