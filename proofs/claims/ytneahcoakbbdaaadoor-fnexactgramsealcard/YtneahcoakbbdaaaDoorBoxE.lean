/-
  What the program puts behind a hidden text: the beginning of the mac of nonce and hidden text; no old block turns.
-/
import Derived.Test.YtneahcoakbbdaaaDoorBoxI
namespace Go.Proofs.YtneahcoakbbdaaaDoor.cc
open Go.ChangeShapes Go.WideShapes Go.ChangeAt Go.RowKit
open Go.Proofs.YtneahcoakbbdaaaDoor.sh (U macB macB_size implMac_core Tab)
set_option linter.unusedVariables false

theorem joined2_drew (s t : ByteArray) (u : World) (h : s.size + t.size ≤ 1099511627776) :
    Calls Tryd.prog 31 #[.slice (some ⟨u.heap.size, 0, none⟩) 2 2] (u.alloc (.cells #[.string s, .string t] 9)).drew fun e w' => e = .returned (.string (s ++ t)) ∧ Below u.heap.size u w' :=
  (show Calls Tryd.prog 31 #[.slice (some ⟨u.drew.heap.size, 0, none⟩) 2 2] (u.drew.alloc (.cells #[.string s, .string t] 9)) fun e w' => e = .returned (.string (s ++ t)) ∧ Below u.heap.size u w' from
    (jo.joined2 s t u.drew h).mono fun e w' ⟨he, hb⟩ => ⟨he, (show Below u.heap.size u u.drew from (Below.refl _ _).drew).trans hb⟩)
/-- what is known while an end is made -/
def InE (w : World) (A B C : ByteArray) (u : World) : Prop := Below w.heap.size w u ∧ u.heap[w.heap.size]? = some (.cells #[.string A, .string B, .string C] 52 (0, 0))
theorem InE.up {w u u' : World} {A B C : ByteArray} (h : InE w A B C u) (hb : Below u.heap.size u u') : InE w A B C u' := ⟨h.1.trans (hb.mono h.1.size), (hb.block _ (heap_lt h.2)).trans h.2⟩
theorem InE.drew {w u : World} {A B C : ByteArray} (h : InE w A B C u) : InE w A B C u.drew := ⟨h.1.drew, h.2⟩

set_option maxRecDepth 20000 in
set_option maxHeartbeats 4000000 in
theorem endOf_any (A B C h : ByteArray) (w : World) (hB : B.size = 32) (hC : C.size = 12) (ht : h.size ≤ 7988) (hT : Both w) :
    Calls Tryd.prog 32 #[.agg #[.string A, .string B, .string C], .string h] w fun e w' => e = .returned (.string ((macB B (C ++ h)).extract 0 16)) ∧ Below w.heap.size w w' := by
  have HT : Hid (∀ u, Below w.heap.size w u → Both u) := fun u hb => hT.up hb
  clear hT
  have HMS : Hid ((macB B (C ++ h)).size = 32) := macB_size _ _
  have HSZ : Hid ((C ++ h).size ≤ 8000) := by show _ ≤ _; rw [ByteArray.size_append]; omega
  go_enter Tryd.func32, Tryd.ntmps32
  go_wp2_with fail
  refine wp_w (fun u => InE w A B C u) ⟨(Below.refl _ _).alloc (Nat.le_refl _) _, heap_alloc_new _ _⟩ ?_
  intro u HI
  obtain ⟨r0, r1, r2, f0, f1, f2⟩ := cells3 HI.2
  have n1 : u.heap.size ≠ w.heap.size := Nat.ne_of_gt (heap_lt HI.2)
  go_region_held2 (fun u => u.cell? ⟨w.heap.size, 1, none⟩ = some (.string B) ∧ u.cell? ⟨w.heap.size, 2, none⟩ = some (.string C)) (go_keep) (first | (go_at_call 31; refine (joined2_drew C h u (by omega)).mono ?_; rintro e u1 ⟨rfl, hb⟩; replace HI := HI.up hb; clear r0 r1 r2 f0 f1 f2; obtain ⟨r0, r1, r2, f0, f1, f2⟩ := cells3 HI.2; clear hb) | (go_at_call 64; refine (implMac_core B (C ++ h) _ (by omega) HSZ.out (HT.out _ HI.1).1).mono ?_; rintro e u2 ⟨rfl, hb⟩; replace HI := HI.up hb; clear r0 r1 r2 f0 f1 f2; obtain ⟨r0, r1, r2, f0, f1, f2⟩ := cells3 HI.2; clear hb; have hms := HMS.out; generalize hM : macB B (C ++ h) = M at *; have HM : Hid (macB B (C ++ h) = M) := hM; clear hM))
  all_goals
    go_wp2_with fail
    go_ret
    exact ⟨congrArg (fun m : ByteArray => Ending.returned (Value.string (m.extract 0 16))) HM.out.symm, HI.1⟩
end Go.Proofs.YtneahcoakbbdaaaDoor.cc
