/-
  GramSeal of the program and of the model at every key and gram: both tell what the plain function tells; no old block turns. Condition, of the program: the two tables lie in their variables.
-/
import Derived.Test.YtneahcoakbbdaaaDoorGramP
import Derived.Test.YtneahcoakbbdaaaDoorGramR
import Derived.Test.YtneahcoakbbdaaaDoorBoxIS
import Derived.Test.YtneahcoakbbdaaaDoorBoxMS
namespace Go.Proofs.YtneahcoakbbdaaaDoor.gm
open Go.ChangeShapes Go.WideShapes Go.ChangeAt Go.RowKit
open Go.Proofs.YtneahcoakbbdaaaDoor.wi (RightG gramI_any gramM_any calls_w wp_w heap_lt)
open Classical
set_option linter.unusedVariables false

theorem keyI_any (key : ByteArray) (w : World) (hk : key.size ≤ maxLen) : Calls Tryd.prog 37 #[.string key] w fun e w' => e = .returned (.bool (decide (KeyR key))) ∧ w' = w := by
  unfold maxLen at hk
  by_cases h0 : 1 ≤ key.size
  · by_cases h1 : key.size ≤ 64
    · rw [decide_eq_true (show KeyR key from ⟨h0, h1⟩)]
      have d : decide ((key.size : Int) ≤ 64) = true := decide_eq_true (by omega)
      go_enter Tryd.func37, Tryd.ntmps37
      go_wp2
      go_ret
      exact ⟨rfl, rfl⟩
    · rw [decide_eq_false (fun h : KeyR key => h1 h.2)]
      have d : decide ((key.size : Int) ≤ 64) = false := decide_eq_false (by omega)
      go_enter Tryd.func37, Tryd.ntmps37
      go_wp2
      go_ret
      exact ⟨rfl, rfl⟩
  · rw [decide_eq_false (fun h : KeyR key => h0 h.1)]
    go_enter Tryd.func37, Tryd.ntmps37
    go_wp2
    go_ret
    exact ⟨rfl, rfl⟩
theorem keyM_any (key : ByteArray) (w : World) (hk : key.size ≤ maxLen) : Calls Tryd.prog 33 #[.string key] w fun e w' => e = .returned (.bool (decide (KeyR key))) ∧ w' = w := by
  unfold maxLen at hk
  by_cases h0 : 1 ≤ key.size
  · by_cases h1 : key.size ≤ 64
    · rw [decide_eq_true (show KeyR key from ⟨h0, h1⟩)]
      have d : decide ((key.size : Int) ≤ 64) = true := decide_eq_true (by omega)
      go_enter Tryd.func33, Tryd.ntmps33
      go_wp2
      go_ret
      exact ⟨rfl, rfl⟩
    · rw [decide_eq_false (fun h : KeyR key => h1 h.2)]
      have d : decide ((key.size : Int) ≤ 64) = false := decide_eq_false (by omega)
      go_enter Tryd.func33, Tryd.ntmps33
      go_wp2
      go_ret
      exact ⟨rfl, rfl⟩
  · rw [decide_eq_false (fun h : KeyR key => h0 h.1)]
    go_enter Tryd.func33, Tryd.ntmps33
    go_wp2
    go_ret
    exact ⟨rfl, rfl⟩
theorem numM_any (s e c : Int) (b : Nat) (w : World) (h : RightG s e c b) : Calls Tryd.prog 35 #[.int .i64 s, .int .i64 e, .int .i64 c] w fun r w' => r = .returned (.int .i64 (numG s e c)) ∧ w' = w := by
  have h' := h
  unfold RightG at h'
  obtain ⟨h1, h2, h3, h4⟩ := h'
  go_enter Tryd.func35, Tryd.ntmps35
  go_wp2
  go_ret
  exact ⟨by first | rfl | (unfold numG; go_num), rfl⟩
set_option maxHeartbeats 2000000 in
theorem numI_any (s e c : Int) (b : ByteArray) (w : World) (h : RightG s e c b.size) : Calls Tryd.prog 39 #[.agg #[.int .i64 s, .int .i64 e, .int .i64 c, .string b]] w fun r w' => r = .returned (.int .i64 (numG s e c)) ∧ Below w.heap.size w w' := by
  have HB : Hid (∀ o, Below w.heap.size w (w.alloc o)) := fun o => (Below.refl _ _).alloc (Nat.le_refl _) o
  have h' := h
  unfold RightG at h'
  obtain ⟨h1, h2, h3, h4⟩ := h'
  go_enter Tryd.func39, Tryd.ntmps39
  go_wp2
  go_ret
  exact ⟨by first | rfl | (unfold numG; go_num), HB.out _⟩

theorem infoG : (Tryd.prog.info? 28).map (·.size) = some 4 := by kernel_rfl
/-- what is known inside: the gram's block -/
def InG (w : World) (s e c : Int) (b : ByteArray) (u : World) : Prop := Below w.heap.size w u ∧ u.heap[w.heap.size]? = some (.cells #[.int .i64 s, .int .i64 e, .int .i64 c, .string b] 28 (0, 0))
theorem InG.up {w u u' : World} {s e c : Int} {b : ByteArray} (h : InG w s e c b u) (hb : Below u.heap.size u u') : InG w s e c b u' := ⟨h.1.trans (hb.mono h.1.size), (hb.block _ (heap_lt h.2)).trans h.2⟩
theorem InG.drewN {w u : World} {s e c : Int} {b : ByteArray} (h : InG w s e c b u) (k : Nat) : InG w s e c b (u.drewN k) := ⟨below_drewN h.1 _, h.2⟩
theorem InG.drew {w u : World} {s e c : Int} {b : ByteArray} (h : InG w s e c b u) : InG w s e c b u.drew := ⟨h.1.drew, h.2⟩
theorem InG.below {w u : World} {s e c : Int} {b : ByteArray} (h : InG w s e c b u) : Below w.heap.size w u := h.1
theorem InG.cells {w u : World} {s e c : Int} {b : ByteArray} (h : InG w s e c b u) : u.cell? ⟨w.heap.size, 0, none⟩ = some (.int .i64 s) ∧ u.cell? ⟨w.heap.size, 1, none⟩ = some (.int .i64 e) ∧ u.cell? ⟨w.heap.size, 2, none⟩ = some (.int .i64 c) ∧ u.cell? ⟨w.heap.size, 3, none⟩ = some (.string b) := by
  refine ⟨?_, ?_, ?_, ?_⟩ <;> simp [World.cell?, h.2]

set_option maxHeartbeats 8000000 in
theorem sealI_any (key : ByteArray) (s e c : Int) (b : ByteArray) (w : World) (hk : key.size ≤ maxLen) (hb : b.size ≤ maxLen) (hT : cc.Both w) :
    Calls Tryd.prog 12 #[.string key, .agg #[.int .i64 s, .int .i64 e, .int .i64 c, .string b]] w fun r w' => r = .returned (.string (sealG key s e c b)) ∧ Below w.heap.size w w' := by
  have HI0 : Hid (InG w s e c b (w.alloc (.cells #[.int .i64 s, .int .i64 e, .int .i64 c, .string b] 28))) := ⟨(Below.refl _ _).alloc (Nat.le_refl _) _, heap_alloc_new _ _⟩
  have HT : Hid (∀ u, Below w.heap.size w u → cc.Both u) := fun u hb => hT.up hb
  have HK := fun u => keyI_any key u hk
  clear hT
  by_cases h1 : KeyR key
  · rw [decide_eq_true h1] at HK
    by_cases h2 : RightG s e c b.size
    · have HS : Hid (sealG key s e c b = pn.numB (numG s e c) ++ cc.sealA key (numG s e c) b) := sealG_yes ⟨h1, h2⟩
      have hi := i64_num h2
      have hn := numB_size_le hi
      have hz : (cc.sealA key (numG s e c) b).size ≤ 1099511627000 := by
        have h4 := h2.2.2.2
        by_cases hh : (1 ≤ key.size ∧ key.size ≤ 64 ∧ 0 ≤ numG s e c ∧ numG s e c ≤ 1000000) ∧ b.size ≤ 1000
        · rw [cc.sealA_yes hh, cc.boxB_size]; omega
        · rw [cc.sealA_no hh]; exact Nat.zero_le _
      go_enter Tryd.func12, Tryd.ntmps12
      go_wp2_with (first | (go_at_call 37; (with_reducible refine (HK _).mono ?_); rintro r w' ⟨rfl, hw'⟩; obtain rfl := hw'.symm) | (go_at_call 38; fail))
      refine calls_w (InG w s e c b) HI0.out ?_
      clear HI0
      intro u0 i0
      refine (gramI_any s e c b u0 hb).mono ?_
      rw [decide_eq_true h2]
      rintro r w1 ⟨rfl, hb1⟩
      have i1 := i0.up hb1
      clear i0 hb1 HK
      have hrow := i1.2
      go_wp2_with (first | (refine wpList_load_row rfl 28 _ rfl w.heap.size rfl _ _ _ _ hrow Tryd.underlying28 rfl infoG ?_) | (go_at_call 39; fail))
      clear hrow
      refine (numI_any s e c b w1 h2).mono ?_
      rintro r w2 ⟨rfl, hb2⟩
      have i2 := i1.up hb2
      clear i1 hb2
      obtain ⟨n, hnn⟩ : ∃ n, n = numG s e c := ⟨_, rfl⟩
      rw [← hnn] at hi hn hz HS ⊢
      clear hnn
      go_wp2_with fail
      have HX : Hid (∀ u, Below w.heap.size w u → Calls Tryd.prog 8 #[.string key, .int .i64 n, .string b] u fun r w' => r = .returned (.string (cc.sealA key n b)) ∧ Below u.heap.size u w') := fun u hu => cc.implSeal_any key n b u hk hb (HT.out u hu)
      obtain ⟨T, hTT⟩ : ∃ T, T = cc.sealA key n b := ⟨_, rfl⟩
      rw [← hTT] at HX HS hz
      clear hTT HT
      obtain ⟨k0, k1, k2, k3⟩ := i2.cells
      replace i2 := i2.drew
      go_region_with (first | (go_at_call 40; (with_reducible refine (pn.impl_any _ _ hi).mono ?_); rintro r w3 ⟨rfl, hb3⟩; replace i2 := i2.up hb3; clear hb3 k0 k1 k2 k3; obtain ⟨k0, k1, k2, k3⟩ := i2.cells) | (go_at_call 8; (with_reducible refine (HX.out _ i2.below).mono ?_); rintro r w4 ⟨rfl, hb4⟩; replace i2 := i2.up hb4; clear hb4 k0 k1 k2 k3; obtain ⟨k0, k1, k2, k3⟩ := i2.cells) | (go_at_call 31; (with_reducible refine (jo.joined2 _ _ _ (by omega)).mono ?_); rintro r w5 ⟨rfl, hb5⟩; replace i2 := i2.up hb5; clear hb5 k0 k1 k2 k3; obtain ⟨k0, k1, k2, k3⟩ := i2.cells))
      all_goals
        have HB : Hid (Below w.heap.size w w5) := i2.below
        clear i2 k0 k1 k2 k3 HX
        go_wp2
        go_ret
        exact ⟨by rw [HS.out]; rfl, HB.out⟩
    · have HS : Hid (sealG key s e c b = ⟨#[]⟩) := sealG_no (fun h => h2 h.2)
      go_enter Tryd.func12, Tryd.ntmps12
      go_wp2_with (first | (go_at_call 37; (with_reducible refine (HK _).mono ?_); rintro r w' ⟨rfl, hw'⟩; obtain rfl := hw'.symm) | (go_at_call 38; fail))
      refine calls_w (InG w s e c b) HI0.out ?_
      clear HI0
      intro u0 i0
      refine (gramI_any s e c b u0 hb).mono ?_
      rw [decide_eq_false h2]
      rintro r w1 ⟨rfl, hb1⟩
      have HB : Hid (Below w.heap.size w w1) := (i0.up hb1).below
      clear i0 hb1 HK
      go_wp2
      go_ret
      exact ⟨by rw [HS.out]; rfl, HB.out⟩
  · rw [decide_eq_false h1] at HK
    have HS : Hid (sealG key s e c b = ⟨#[]⟩) := sealG_no (fun h => h1 h.1)
    have HB : Hid (∀ o, Below w.heap.size w (w.alloc o)) := fun o => (Below.refl _ _).alloc (Nat.le_refl _) o
    go_enter Tryd.func12, Tryd.ntmps12
    go_wp2_with (go_at_call 37; (with_reducible refine (HK _).mono ?_); rintro r w' ⟨rfl, hw'⟩; obtain rfl := hw'.symm)
    go_ret
    exact ⟨by rw [HS.out]; rfl, HB.out _⟩

set_option maxHeartbeats 8000000 in
theorem sealM_any (key : ByteArray) (s e c : Int) (b : ByteArray) (w : World) (hk : key.size ≤ maxLen) (hb : b.size ≤ maxLen) :
    Calls Tryd.prog 10 #[.string key, .agg #[.int .i64 s, .int .i64 e, .int .i64 c, .string b]] w fun r w' => r = .returned (.string (sealG key s e c b)) ∧ Below w.heap.size w w' := by
  have HI0 : Hid (InG w s e c b (w.alloc (.cells #[.int .i64 s, .int .i64 e, .int .i64 c, .string b] 28))) := ⟨(Below.refl _ _).alloc (Nat.le_refl _) _, heap_alloc_new _ _⟩
  have HK := fun u => keyM_any key u hk
  by_cases h1 : KeyR key
  · rw [decide_eq_true h1] at HK
    by_cases h2 : RightG s e c b.size
    · have HS : Hid (sealG key s e c b = pn.numB (numG s e c) ++ cc.sealA key (numG s e c) b) := sealG_yes ⟨h1, h2⟩
      have hi := i64_num h2
      have hn := numB_size_le hi
      have hz : (cc.sealA key (numG s e c) b).size ≤ 1099511627000 := by
        have h4 := h2.2.2.2
        by_cases hh : (1 ≤ key.size ∧ key.size ≤ 64 ∧ 0 ≤ numG s e c ∧ numG s e c ≤ 1000000) ∧ b.size ≤ 1000
        · rw [cc.sealA_yes hh, cc.boxB_size]; omega
        · rw [cc.sealA_no hh]; exact Nat.zero_le _
      have HN := fun u => numM_any s e c b.size u h2
      go_enter Tryd.func10, Tryd.ntmps10
      go_wp2_with (first | (go_at_call 33; (with_reducible refine (HK _).mono ?_); rintro r w' ⟨rfl, hw'⟩; obtain rfl := hw'.symm) | (go_at_call 34; fail))
      refine calls_w (InG w s e c b) HI0.out ?_
      clear HI0
      intro u0 i0
      refine (gramM_any s e c b u0 hb).mono ?_
      rw [decide_eq_true h2]
      rintro r w1 ⟨rfl, hb1⟩
      have i1 := i0.up hb1
      clear i0 hb1 HK
      obtain ⟨n, hnn⟩ : ∃ n, n = numG s e c := ⟨_, rfl⟩
      rw [← hnn] at hi hn hz HS HN
      clear hnn
      obtain ⟨k0, k1, k2, k3⟩ := i1.cells
      go_wp2_with (go_at_call 35; (with_reducible refine (HN _).mono ?_); rintro r w' ⟨rfl, hw'⟩; obtain rfl := hw'.symm)
      have HX : Hid (∀ u, Calls Tryd.prog 7 #[.string key, .int .i64 n, .string b] u fun r w' => r = .returned (.string (cc.sealA key n b)) ∧ Below u.heap.size u w') := fun u => cc.specSeal_any key n b u hk hb
      obtain ⟨T, hTT⟩ : ∃ T, T = cc.sealA key n b := ⟨_, rfl⟩
      rw [← hTT] at HX HS hz
      clear hTT HN
      replace i1 := i1.drew
      go_region_with (first | (go_at_call 36; (with_reducible refine (pn.spec_any _ _ hi).mono ?_); rintro r w3 ⟨rfl, hb3⟩; replace i1 := i1.up hb3; clear hb3 k0 k1 k2 k3; obtain ⟨k0, k1, k2, k3⟩ := i1.cells) | (go_at_call 7; (with_reducible refine (HX.out _).mono ?_); rintro r w4 ⟨rfl, hb4⟩; replace i1 := i1.up hb4; clear hb4 k0 k1 k2 k3; obtain ⟨k0, k1, k2, k3⟩ := i1.cells))
      all_goals
        have HB := i1.below
        have HB' : Hid _ := HB
        clear i1 k0 k1 k2 k3 HX HB
        go_wp2
        go_ret
        exact ⟨by rw [HS.out]; rfl, HB'.out⟩
    · have HS : Hid (sealG key s e c b = ⟨#[]⟩) := sealG_no (fun h => h2 h.2)
      go_enter Tryd.func10, Tryd.ntmps10
      go_wp2_with (first | (go_at_call 33; (with_reducible refine (HK _).mono ?_); rintro r w' ⟨rfl, hw'⟩; obtain rfl := hw'.symm) | (go_at_call 34; fail))
      refine calls_w (InG w s e c b) HI0.out ?_
      clear HI0
      intro u0 i0
      refine (gramM_any s e c b u0 hb).mono ?_
      rw [decide_eq_false h2]
      rintro r w1 ⟨rfl, hb1⟩
      have HB : Hid (Below w.heap.size w w1) := (i0.up hb1).below
      clear i0 hb1 HK
      go_wp2
      go_ret
      exact ⟨by rw [HS.out]; rfl, HB.out⟩
  · rw [decide_eq_false h1] at HK
    have HS : Hid (sealG key s e c b = ⟨#[]⟩) := sealG_no (fun h => h1 h.1)
    have HB : Hid (∀ o, Below w.heap.size w (w.alloc o)) := fun o => (Below.refl _ _).alloc (Nat.le_refl _) o
    go_enter Tryd.func10, Tryd.ntmps10
    go_wp2_with (go_at_call 33; (with_reducible refine (HK _).mono ?_); rintro r w' ⟨rfl, hw'⟩; obtain rfl := hw'.symm)
    go_ret
    exact ⟨by rw [HS.out]; rfl, HB.out _⟩
end Go.Proofs.YtneahcoakbbdaaaDoor.gm
