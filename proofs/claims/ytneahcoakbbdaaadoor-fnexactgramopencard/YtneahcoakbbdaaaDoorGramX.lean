/-
  The law that holds the program's GramOpen against the model's tells true at every key and text. Conditions: the two tables and the four errors lie in their variables.
-/
import Derived.Test.YtneahcoakbbdaaaDoorGramQ
import Derived.Test.YtneahcoakbbdaaaDoorGramLd
namespace Go.Proofs.YtneahcoakbbdaaaDoor.gm
open Go.ChangeShapes Go.WideShapes Go.ChangeAt Go.RowKit
open Go.Proofs.YtneahcoakbbdaaaDoor.wi (RightG gramI_any gramM_any heap_lt wp_w calls_w is_any)
open Go.Proofs.YtneahcoakbbdaaaDoor.np (getV numV)
open Classical
set_option linter.unusedVariables false

/-- an answer's five cells -/
theorem go_cells {u : World} {q : Nat} {a b c d e : Value} {T : TypeId} (h : u.heap[q]? = some (.cells #[a, b, c, d, e] T (0, 0))) :
    u.cell? ⟨q, 0, none⟩ = some a ∧ u.cell? ⟨q, 1, none⟩ = some b ∧ u.cell? ⟨q, 2, none⟩ = some c ∧ u.cell? ⟨q, 3, none⟩ = some d ∧ u.cell? ⟨q, 4, none⟩ = some e := by
  refine ⟨?_, ?_, ?_, ?_, ?_⟩ <;> simp [World.cell?, h]
set_option maxHeartbeats 8000000 in
theorem eqGram_any (s e c : Int) (b : ByteArray) (w : World) : Calls Tryd.prog 46 #[.agg #[.int .i64 s, .int .i64 e, .int .i64 c, .string b], .agg #[.int .i64 s, .int .i64 e, .int .i64 c, .string b]] w fun r w' => r = .returned (.bool true) ∧ Below w.heap.size w w' := by
  have q1 : (s == s) = true := by simp
  have q2 : (e == e) = true := by simp
  have q3 : (c == c) = true := by simp
  have q4 : (b.toList == b.toList) = true := by simp
  have HB : Hid (Below w.heap.size w ((w.alloc (.cells #[.int .i64 s, .int .i64 e, .int .i64 c, .string b] 28)).alloc (.cells #[.int .i64 s, .int .i64 e, .int .i64 c, .string b] 28))) := ((Below.refl _ _).alloc (Nat.le_refl _) _).alloc (by simp) _
  go_enter Tryd.func46, Tryd.ntmps46
  go_wp2
  go_ret
  exact ⟨rfl, HB.out⟩
set_option maxHeartbeats 8000000 in
theorem eqGramOut_any (s e c : Int) (b : ByteArray) (k : Int) (w : World) : Calls Tryd.prog 15 #[.agg #[.int .i64 s, .int .i64 e, .int .i64 c, .string b, .int .i64 k], .agg #[.int .i64 s, .int .i64 e, .int .i64 c, .string b, .int .i64 k]] w fun r w' => r = .returned (.bool true) ∧ Below w.heap.size w w' := by
  have HB : Hid (Below w.heap.size w ((w.alloc (.cells #[.int .i64 s, .int .i64 e, .int .i64 c, .string b, .int .i64 k] 32)).alloc (.cells #[.int .i64 s, .int .i64 e, .int .i64 c, .string b, .int .i64 k] 32))) := ((Below.refl _ _).alloc (Nat.le_refl _) _).alloc (by simp) _
  go_enter Tryd.func15, Tryd.ntmps15
  go_wp2_with (go_at_call 46; fail)
  refine calls_w (fun u => Below w.heap.size w u ∧ u.heap[w.heap.size]? = some (.cells #[.int .i64 s, .int .i64 e, .int .i64 c, .string b, .int .i64 k] 32 (0, 0)) ∧ u.heap[w.heap.size + 1]? = some (.cells #[.int .i64 s, .int .i64 e, .int .i64 c, .string b, .int .i64 k] 32 (0, 0))) ⟨HB.out, (Below.heap_alloc _ _ _ (by simp)).trans (heap_alloc_new _ _), heap_alloc2_new _ _ _⟩ ?_
  clear HB
  rintro u ⟨hu, ha, hb⟩
  refine (eqGram_any s e c b u).mono ?_
  rintro r w1 ⟨rfl, hb1⟩
  obtain ⟨_, _, _, _, x4⟩ := go_cells ((hb1.block _ (heap_lt ha)).trans ha)
  obtain ⟨_, _, _, _, y4⟩ := go_cells ((hb1.block _ (heap_lt hb)).trans hb)
  have HP : Hid (Below w.heap.size w w1) := hu.trans (hb1.mono hu.size)
  have hq : (k == k) = true := by simp
  clear hu ha hb hb1
  go_wp2
  go_ret
  exact ⟨rfl, HP.out⟩

set_option maxHeartbeats 8000000 in
theorem openLaw (key text : ByteArray) (w : World) (hk : key.size ≤ maxLen) (ht : text.size ≤ maxLen) (hg : eg.Met w) :
    Calls Tryd.prog 5 #[.string key, .string text] w fun r w' => r = .returned (.bool true) ∧ Below w.heap.size w w' := by
  obtain ⟨⟨a1, a2, a3, a4, hE⟩, hT⟩ := hg
  have HM := fun u => openM_any key text u hk ht
  have HX : Hid (∀ u, Below w.heap.size w u → Calls Tryd.prog 14 #[.string key, .string text] u fun r w' => r = .returned (outG (openG key text)) ∧ Below u.heap.size u w') := fun u hu => openI_any key text u hk ht (hE.up hu) (hT.up hu)
  obtain ⟨s, e, c, b, k, hA⟩ : ∃ s e c b k, openG key text = ((s, e, c, b), k) := ⟨_, _, _, _, _, rfl⟩
  rw [hA] at HM HX
  clear hA hE hT
  unfold outG at HM HX
  simp only at HM
  unfold maxLen at hk ht
  by_cases hbk : 1048576 < key.size
  · go_enter Tryd.func5, Tryd.ntmps5
    go_wp2
    go_ret
    exact ⟨rfl, Below.refl _ _⟩
  · by_cases hbt : 1048576 < text.size
    · go_enter Tryd.func5, Tryd.ntmps5
      go_wp2
      go_ret
      exact ⟨rfl, Below.refl _ _⟩
    · go_enter Tryd.func5, Tryd.ntmps5
      go_wp2_with (go_at_call 13; fail)
      refine (HM w).mono ?_
      rintro r w1 ⟨rfl, hb1⟩
      go_wp2_with (go_at_call 14; fail)
      have ha1 : (w1.alloc (.cells #[.int .i64 s, .int .i64 e, .int .i64 c, .string b, .int .i64 k] 32)).heap[w1.heap.size]? = some (.cells #[.int .i64 s, .int .i64 e, .int .i64 c, .string b, .int .i64 k] 32 (0, 0)) := heap_alloc_new _ _
      obtain ⟨qa, hqa⟩ : ∃ q, q = w1.heap.size := ⟨_, rfl⟩
      rw [← hqa] at ha1 ⊢
      refine calls_w (fun u => Below w.heap.size w u ∧ u.heap[qa]? = some (.cells #[.int .i64 s, .int .i64 e, .int .i64 c, .string b, .int .i64 k] 32 (0, 0))) ⟨hb1.alloc hb1.size _, ha1⟩ ?_
      clear ha1 hqa hb1 HM
      rintro u2 ⟨hu2, ha2⟩
      refine (HX.out u2 hu2).mono ?_
      rintro r w3 ⟨rfl, hb3⟩
      have ha3 := (hb3.block _ (heap_lt ha2)).trans ha2
      have HB3 : Hid (Below w.heap.size w w3) := hu2.trans (hb3.mono hu2.size)
      clear hu2 ha2 hb3 HX
      have bg : Below w3.heap.size w3 (w3.alloc (.cells #[.int .i64 s, .int .i64 e, .int .i64 c, .string b, .int .i64 k] 32)) := (Below.refl _ _).alloc (Nat.le_refl _) _
      have ha4 := (bg.block _ (heap_lt ha3)).trans ha3
      have hg4 : (w3.alloc (.cells #[.int .i64 s, .int .i64 e, .int .i64 c, .string b, .int .i64 k] 32)).heap[w3.heap.size]? = some (.cells #[.int .i64 s, .int .i64 e, .int .i64 c, .string b, .int .i64 k] 32 (0, 0)) := heap_alloc_new _ _
      clear ha3
      go_wp2_with (first | (refine wpList_load_row rfl 32 _ rfl w3.heap.size rfl _ _ _ _ hg4 Tryd.underlying32 rfl infoGO ?_) | (refine wpList_load_row rfl 32 _ rfl qa rfl _ _ _ _ ha4 Tryd.underlying32 rfl infoGO ?_) | (go_at_call 15; fail))
      refine (eqGramOut_any s e c b k _).mono ?_
      rintro r w5 ⟨rfl, hb5⟩
      have HB : Hid (Below w.heap.size w w5) := (HB3.out.trans (bg.mono HB3.out.size)).trans (hb5.mono (Nat.le_trans HB3.out.size bg.size))
      clear ha4 hg4 hb5 bg HB3
      go_wp2
      go_ret
      exact ⟨rfl, HB.out⟩
end Go.Proofs.YtneahcoakbbdaaaDoor.gm
