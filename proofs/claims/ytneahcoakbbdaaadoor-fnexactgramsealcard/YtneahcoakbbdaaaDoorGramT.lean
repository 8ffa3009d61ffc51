/-
  The law's own helpers on grams: a gram copied, measured, read. No condition.
-/
import Derived.Test.YtneahcoakbbdaaaDoorGramS
import Derived.Lib.SmallJoins
namespace Go.Proofs.YtneahcoakbbdaaaDoor.gm
open Go.ChangeShapes Go.WideShapes Go.ChangeAt Go.RowKit
open Go.Proofs.YtneahcoakbbdaaaDoor.wi (RightG gramI_any gramM_any calls_w wp_w heap_lt)
open Classical
set_option linter.unusedVariables false

theorem infoL : (Tryd.prog.info? 25).map (·.size) = some 4 := by kernel_rfl

set_option maxHeartbeats 2000000 in
theorem toGram_any (s e c : Int) (b : ByteArray) (w : World) :
    Calls Tryd.prog 11 #[.agg #[.int .i64 s, .int .i64 e, .int .i64 c, .string b]] w fun r w' => r = .returned (.agg #[.int .i64 s, .int .i64 e, .int .i64 c, .string b]) ∧ Below w.heap.size w w' := by
  have HB : Hid (Below w.heap.size w (((w.alloc (.cells #[.int .i64 s, .int .i64 e, .int .i64 c, .string b] 25)).alloc (.cells #[.int .i64 s, .int .i64 e, .int .i64 c, .string b] 28)).alloc (.cells #[.int .i64 s, .int .i64 e, .int .i64 c, .string b] 28))) := (((Below.refl _ _).alloc (Nat.le_refl _) _).alloc (((Below.refl _ _).alloc (Nat.le_refl _) _).size) _).alloc ((((Below.refl _ _).alloc (Nat.le_refl _) _).alloc (((Below.refl _ _).alloc (Nat.le_refl _) _).size) _).size) _
  go_enter Tryd.func11, Tryd.ntmps11
  go_wp2
  exact bodyPost_ret (results_cell_row Tryd.results11 _ _ (w.heap.size + 1) _ _ _ _ rfl ((Below.heap_alloc _ _ _ (by simp)).trans (heap_alloc2_new _ _ _)) Tryd.underlying28 rfl infoG) rfl ⟨rfl, HB.out⟩

set_option maxHeartbeats 2000000 in
theorem szGram_any (s e c : Int) (b : ByteArray) (w : World) (hb : b.size ≤ maxLen) :
    Calls Tryd.prog 9 #[.agg #[.int .i64 s, .int .i64 e, .int .i64 c, .string b], .int .i64 1048576] w fun r w' => r = .returned (.int .i64 (if 1048576 < b.size then -1 else 1048576 - (b.size : Int))) ∧ Below w.heap.size w w' := by
  have HB : Hid (∀ o, Below w.heap.size w (w.alloc o)) := fun o => (Below.refl _ _).alloc (Nat.le_refl _) o
  unfold maxLen at hb
  by_cases h : 1048576 < b.size
  · have d : decide (1048576 - (b.size : Int) < 0) = true := decide_eq_true (by omega)
    rw [if_pos h]
    go_enter Tryd.func9, Tryd.ntmps9
    go_wp2
    go_ret
    exact ⟨rfl, HB.out _⟩
  · have d : decide (1048576 - (b.size : Int) < 0) = false := decide_eq_false (by omega)
    rw [if_neg h]
    go_enter Tryd.func9, Tryd.ntmps9
    go_wp2
    go_ret
    exact ⟨rfl, HB.out _⟩

/-- what is known inside the law: the argument's block -/
def InGL (w : World) (s e c : Int) (b : ByteArray) (u : World) : Prop := Below w.heap.size w u ∧ u.heap[w.heap.size]? = some (.cells #[.int .i64 s, .int .i64 e, .int .i64 c, .string b] 25 (0, 0))
theorem InGL.up {w u u' : World} {s e c : Int} {b : ByteArray} (h : InGL w s e c b u) (hb : Below u.heap.size u u') : InGL w s e c b u' := ⟨h.1.trans (hb.mono h.1.size), (hb.block _ (heap_lt h.2)).trans h.2⟩


set_option maxRecDepth 100000 in
theorem gram_open {H : Type} {enc : TypeId × Value → H} {W : World} {r : Reach} {b0 : Nat} {v : Value} {d : DataW H} {p : List MemPlace}
    (hv : Value.okWide Tryd.prog W r b0 25 v) (h : DataW.Trod enc Tryd.prog W 0 (fun _ => true) true 25 v d p) :
    ∃ (s e c : Int) (b : ByteArray), v = .agg #[.int .i64 s, .int .i64 e, .int .i64 c, .string b] ∧ b.size ≤ maxLen := by
  obtain ⟨x0, x1, x2, x3, y0, y1, y2, y3, n, rfl, rfl, rfl, t0, t1, t2, t3⟩ := Joins.open_agg4 Tryd.underlying25 (by kernel_rfl) (by kernel_rfl) hv h
  obtain ⟨a, ha, rfl, wa⟩ := DataW.trod_int Tryd.underlying2 t0
  obtain ⟨b, hb, rfl, wb⟩ := DataW.trod_int Tryd.underlying2 t1
  obtain ⟨c, hc, rfl, wc⟩ := DataW.trod_int Tryd.underlying2 t2
  obtain ⟨d, hd, rfl, wd⟩ := DataW.trod_string Tryd.underlying9 t3
  obtain rfl := (List.cons.inj ha).1
  obtain rfl := (List.cons.inj hb).1
  obtain rfl := (List.cons.inj hc).1
  obtain rfl := (List.cons.inj hd).1
  exact ⟨a, b, c, d, rfl, wd⟩

set_option maxHeartbeats 4000000 in
theorem sealWalk (key : ByteArray) (s e c : Int) (b : ByteArray) (w : World) (hk : key.size ≤ maxLen) (hb : b.size ≤ maxLen) (hT : cc.Both w) :
    Calls Tryd.prog 4 #[.string key, .agg #[.int .i64 s, .int .i64 e, .int .i64 c, .string b]] w fun r w' => r = .returned (.bool true) ∧ Below w.heap.size w w' := by
  have HI0 : Hid (InGL w s e c b (w.alloc (.cells #[.int .i64 s, .int .i64 e, .int .i64 c, .string b] 25))) := ⟨(Below.refl _ _).alloc (Nat.le_refl _) _, heap_alloc_new _ _⟩
  have HT : Hid (∀ u, Below w.heap.size w u → cc.Both u) := fun u hb => hT.up hb
  clear hT
  have hb' := hb
  have hk' := hk
  unfold maxLen at hb' hk'
  by_cases hbk : 1048576 < key.size
  · have HB : Hid (∀ o, Below w.heap.size w (w.alloc o)) := fun o => (Below.refl _ _).alloc (Nat.le_refl _) o
    go_enter Tryd.func4, Tryd.ntmps4
    go_wp2
    go_ret
    exact ⟨rfl, HB.out _⟩
  · go_enter Tryd.func4, Tryd.ntmps4
    go_wp2_with (go_at_call 9; fail)
    refine calls_w (InGL w s e c b) HI0.out ?_
    clear HI0
    intro u0 h0
    refine (szGram_any s e c b u0 hb).mono ?_
    rintro r w1 ⟨rfl, hb1⟩
    have h1 := h0.up hb1
    clear h0 hb1
    by_cases hbig : 1048576 < b.size
    · rw [if_pos hbig]
      have HB : Hid (Below w.heap.size w w1) := h1.1
      clear h1
      go_wp2
      go_ret
      exact ⟨rfl, HB.out⟩
    · rw [if_neg hbig]
      have d : decide (1048576 - (b.size : Int) < 0) = false := decide_eq_false (by omega)
      obtain ⟨T, hTT⟩ : ∃ T, T = sealG key s e c b := ⟨_, rfl⟩
      have HM := fun u => sealM_any key s e c b u hk hb
      have HX : Hid (∀ u, Below w.heap.size w u → Calls Tryd.prog 12 #[.string key, .agg #[.int .i64 s, .int .i64 e, .int .i64 c, .string b]] u fun r w' => r = .returned (.string (sealG key s e c b)) ∧ Below u.heap.size u w') := fun u hu => sealI_any key s e c b u hk hb (HT.out u hu)
      rw [← hTT] at HM HX
      have HM' : Hid (∀ u, Calls Tryd.prog 10 #[.string key, .agg #[.int .i64 s, .int .i64 e, .int .i64 c, .string b]] u fun r w' => r = .returned (.string T) ∧ Below u.heap.size u w') := HM
      clear hTT HT HM
      have hrow := h1.2
      go_wp2_with (first | (refine wpList_load_row rfl 25 _ rfl w.heap.size rfl _ _ _ _ hrow Tryd.underlying25 rfl infoL ?_) | (go_at_call 11; fail))
      clear hrow
      refine (toGram_any s e c b w1).mono ?_
      rintro r w2 ⟨rfl, hb2⟩
      have h2 := h1.up hb2
      clear h1 hb2
      go_wp2_with (go_at_call 10; fail)
      refine (HM'.out w2).mono ?_
      rintro r w3 ⟨rfl, hb3⟩
      have h3 := h2.up hb3
      clear h2 hb3 HM'
      have hrow := h3.2
      go_wp2_with (first | (refine wpList_load_row rfl 25 _ rfl w.heap.size rfl _ _ _ _ hrow Tryd.underlying25 rfl infoL ?_) | (go_at_call 11; fail))
      clear hrow
      refine (toGram_any s e c b w3).mono ?_
      rintro r w4 ⟨rfl, hb4⟩
      have h4 := h3.up hb4
      clear h3 hb4
      go_wp2_with (go_at_call 12; fail)
      refine (HX.out w4 h4.1).mono ?_
      rintro r w5 ⟨rfl, hb5⟩
      have h5 := h4.up hb5
      have HB : Hid (Below w.heap.size w w5) := h5.1
      have hq : (T.toList == T.toList) = true := by simp
      clear h4 hb5 h5 HX
      go_wp2
      go_ret
      exact ⟨rfl, HB.out⟩
end Go.Proofs.YtneahcoakbbdaaaDoor.gm
