/-
  The program's SealBox at every argument, where the two tables lie in their variables: what the plain function tells; no old block turns.
-/
import Derived.Test.YtneahcoakbbdaaaDoorBoxE
namespace Go.Proofs.YtneahcoakbbdaaaDoor.cc
open Go.ChangeShapes Go.WideShapes Go.ChangeAt Go.RowKit
open Go.Proofs.YtneahcoakbbdaaaDoor.sh (U macB macB_size)
set_option linter.unusedVariables false

/-- a tool lies in its block -/
def InP (w : World) (p : Nat) (A B C : ByteArray) (u : World) : Prop := Below w.heap.size w u ∧ u.heap[p]? = some (.cells #[.string A, .string B, .string C] 52 (0, 0))
theorem InP.up {w u u' : World} {p : Nat} {A B C : ByteArray} (h : InP w p A B C u) (hb : Below u.heap.size u u') : InP w p A B C u' := ⟨h.1.trans (hb.mono h.1.size), (hb.block _ (heap_lt h.2)).trans h.2⟩

set_option maxRecDepth 20000 in
set_option maxHeartbeats 4000000 in
theorem implSeal_any (key : ByteArray) (n : Int) (t : ByteArray) (w : World) (hk : key.size ≤ maxLen) (ht : t.size ≤ maxLen) (hT : Both w) :
    Calls Tryd.prog 8 #[.string key, .int .i64 n, .string t] w fun e w' => e = .returned (.string (sealA key n t)) ∧ Below w.heap.size w w' := by
  have HR := boxRight_any key n w hk
  have HT : Hid (∀ u, Below w.heap.size w u → Both u) := fun u hb => hT.up hb
  clear hT
  unfold maxLen at hk ht
  by_cases hc : 1 ≤ key.size ∧ key.size ≤ 64 ∧ 0 ≤ n ∧ n ≤ 1000000
  · rw [decide_eq_true hc] at HR
    by_cases h8 : 1000 < t.size
    · rw [sealA_no (fun h => by have := h.2; omega)]
      go_enter Tryd.func8, Tryd.ntmps8
      go_wp2_with (go_at_call 28; refine HR.mono ?_; rintro e w1 ⟨rfl, hw1⟩; obtain rfl := hw1.symm)
      go_ret
      exact ⟨rfl, Below.refl _ _⟩
    · rw [sealA_yes ⟨hc, by omega⟩]
      obtain ⟨c0, c1, c2, c3⟩ := hc
      have ht1 : decide (1000 < (t.size : Int)) = false := decide_eq_false (by omega)
      have HH : Hid (hideB key n t = ⟨(cipherL (macB key hideW).data.toList 1 (nonceB n).data.toList t.data.toList).toArray⟩) := rfl
      have HS : Hid (∀ h, signB key n h = (macB (macB key signW) (nonceB n ++ h)).extract 0 16) := fun h => rfl
      have HBX : Hid (boxB key n t = hideB key n t ++ signB key n (hideB key n t)) := rfl
      have m1 := macB_size key hideW
      have m2 := macB_size key signW
      have m3 := nonceB_size n
      have HHS : Hid ((hideB key n t).size = t.size) := hideB_size _ _ _
      have HSS : Hid (∀ h, (signB key n h).size = 16) := fun h => signB_size _ _ _
      go_enter Tryd.func8, Tryd.ntmps8
      go_wp2_with (go_at_call 28; refine HR.mono ?_; rintro e w1 ⟨rfl, hw1⟩; obtain rfl := hw1.symm)
      clear HR
      refine (tool_any key n w c1 c2 c3 (HT.out _ (Below.refl _ _))).mono ?_
      rintro e w1 ⟨rfl, hb1⟩
      generalize hA : macB key hideW = A at *
      generalize hB : macB key signW = B at *
      generalize hC : nonceB n = C at *
      have HA : Hid _ := hA
      have HBq : Hid _ := hB
      have HC : Hid _ := hC
      clear hA hB hC
      have hl1 : w.heap.size ≤ w1.heap.size := hb1.size
      go_wp2_with fail
      obtain ⟨p, hp⟩ : ∃ p, p = w1.heap.size := ⟨_, rfl⟩
      rw [← hp]
      refine calls_w (fun u => InP w p A B C u) ⟨hb1.alloc hl1 _, by rw [hp]; exact heap_alloc_new _ _⟩ ?_
      clear hp hb1 hl1
      intro u HI
      refine (turned_any A B C t u m1 m3 (by omega) (HT.out _ HI.1)).mono ?_
      rw [← HH.out]
      rintro e w2 ⟨rfl, hb2⟩
      replace HI := HI.up hb2
      clear hb2
      have hXs := HHS.out
      generalize hX : hideB key n t = X at *
      have HX : Hid (hideB key n t = X) := hX
      clear hX HH HHS
      have hrow := HI.2
      go_wp2_with (refine wpList_load_row rfl 52 _ rfl p rfl _ _ _ _ hrow Tryd.underlying52 rfl infoT ?_)
      refine (endOf_any A B C X w2 m2 m3 (by omega) (HT.out _ HI.1)).mono ?_
      rw [← HS.out X]
      rintro e w3 ⟨rfl, hb3⟩
      have HB3 : Hid (Below w.heap.size w w3) := HI.1.trans (hb3.mono HI.1.size)
      clear hb3 hrow HI
      have hYs := HSS.out X
      generalize hY : signB key n X = Y at *
      have HY : Hid (signB key n X = Y) := hY
      clear hY HS HSS
      go_wp2_with fail
      refine (jo.joined2 X Y w3 (by omega)).mono ?_
      rintro e w4 ⟨rfl, hb4⟩
      go_wp2_with fail
      go_ret
      refine ⟨congrArg (fun m : ByteArray => Ending.returned (Value.string m)) ?_, HB3.out.trans (hb4.mono HB3.out.size)⟩
      rw [HBX.out]
  · rw [decide_eq_false hc] at HR
    rw [sealA_no (fun h => hc h.1)]
    go_enter Tryd.func8, Tryd.ntmps8
    go_wp2_with (go_at_call 28; refine HR.mono ?_; rintro e w1 ⟨rfl, hw1⟩; obtain rfl := hw1.symm)
    go_ret
    exact ⟨rfl, Below.refl _ _⟩
end Go.Proofs.YtneahcoakbbdaaaDoor.cc
