/-
  The walks of the laws that hold the program's PolicyRight and Judge against the model's: true at every policy, user and line. No condition.
-/
import Derived.Test.YtndjjhcdnlkekaaDoorRuT
import Derived.Test.YtndjjhcdnlkekaaDoorJu1
import Derived.Test.YtndjjhcdnlkekaaDoorJu2
namespace Go.Proofs.YtndjjhcdnlkekaaDoor.rl
open Go.ChangeShapes Go.WideShapes Go.ChangeAt Go.RowKit
open Go.Proofs.YtndjjhcdnlkekaaDoor.wi (heap_lt calls_w wp_w)
open Classical
set_option linter.unusedVariables false

theorem szV_ok {left : Int} {l : List Ln} (h : ¬ szV left l < 0) (hl : left ≤ 1048576) : l.length ≤ 1048576 := by
  unfold szV at h
  split at h
  · exact absurd (by decide) h
  · omega
/-- inside a law: the copy that the program is handed -/
def InL (w : World) (g : Nat) (l : List Ln) (u : World) : Prop := Below w.heap.size w u ∧ Blk u g l
theorem InL.up {w u u' : World} {g : Nat} {l : List Ln} (h : InL w g l u) (hb : Below u.heap.size u u') : InL w g l u' := ⟨h.1.trans (hb.mono h.1.size), h.2.up hb⟩
set_option maxHeartbeats 8000000 in
theorem lawPolicyRight (w : World) (v : Value) (l : List Ln) (hl : l.length ≤ maxLen) (hz : ∀ r ∈ l, r.2.2.1.size ≤ maxLen ∧ r.2.2.2.size ≤ maxLen) (hv : SliceIs w v l) :
    Calls Tryd.prog 4 #[v] w fun r w' => r = .returned (.bool true) ∧ Below w.heap.size w w' := by
  have HV : Hid (∀ u, Below w.heap.size w u → SliceIs u v l) := fun u hu => hv.up hu
  have hsz := szRules_any v l 1048576 w (by decide) (Int.le_refl _) hl hz hv
  obtain ⟨p, cap, rfl⟩ := hv.shape
  clear hv
  go_enter Tryd.func4, Tryd.ntmps4
  go_wp2_with (go_at_call 13; fail)
  refine hsz.mono ?_
  rintro r u1 ⟨rfl, hb⟩
  have i : Below w.heap.size w u1 := hb
  clear hb hsz
  by_cases hneg : szV 1048576 l < 0
  · have HB : Hid (Below w.heap.size w u1) := i
    generalize szV 1048576 l = z at *
    clear i hz
    go_wp2
    go_ret
    exact ⟨rfl, HB.out⟩
  · have hs2 := szV_ok hneg (Int.le_refl _)
    generalize szV 1048576 l = z at *
    have hto := fun u (h : Below w.heap.size w u) => toRules_any (.slice p l.length cap) l u hs2 (HV.out u h)
    have hm := fun vv u (h : SliceIs u vv l) => polM_any vv l u hl hz h
    have hi := fun vv u (h : SliceIs u vv l) => polI_any vv l u hl hz h
    generalize decide (PolR l) = b at hm hi
    have hbb : (b != b) = false := by simp
    have HI : Hid (Below w.heap.size w u1) := i
    clear i
    go_wp2_with (go_at_call 15; fail)
    refine (hto _ HI.out).mono ?_
    rintro r u2 ⟨rfl, hb, hk⟩
    replace HI : Hid (Below w.heap.size w u2) := HI.out.trans (hb.mono HI.out.size)
    clear hb
    go_wp2_with (go_at_call 14; fail)
    refine (hm _ _ hk.slice).mono ?_
    rintro r u3 ⟨rfl, hb⟩
    replace HI : Hid (Below w.heap.size w u3) := HI.out.trans (hb.mono HI.out.size)
    clear hb hk hm
    go_wp2_with (go_at_call 15; fail)
    refine (hto _ HI.out).mono ?_
    rintro r u4 ⟨rfl, hb, hk⟩
    have i : InL w u3.heap.size l u4 := ⟨HI.out.trans (hb.mono HI.out.size), hk⟩
    obtain ⟨g, hg⟩ : ∃ g, g = u3.heap.size := ⟨_, rfl⟩
    rw [← hg] at i ⊢
    clear hb hk HI hg
    go_wp2_with (go_at_call 16; fail)
    refine (hi _ _ i.2.slice).mono ?_
    rintro r u5 ⟨rfl, hb⟩
    replace i := i.up hb
    clear hb hi
    go_wp2_with (go_at_call 15; fail)
    refine (hto _ i.1).mono ?_
    rintro r w7 ⟨rfl, hb7, hk7⟩
    replace i := i.up hb7
    clear hb7
    go_wp2_with (go_at_call 17; fail)
    refine (eqRules_any _ _ _ _ hl i.2.slice hk7.slice).mono ?_
    rintro r w8 ⟨rfl, hb8⟩
    replace i := i.up hb8
    have HB : Hid (Below w.heap.size w w8) := i.1
    clear i hk7 hb8
    go_wp2
    go_ret
    exact ⟨rfl, HB.out⟩
theorem infoVL : (Tryd.prog.info? 45).map (·.size) = some 2 := infoV
theorem eqVer_any (a b : Int) (w : World) :
    Calls Tryd.prog 29 #[.agg #[.int .i64 a, .int .i64 b], .agg #[.int .i64 a, .int .i64 b]] w fun r w' => r = .returned (.bool true) ∧ Below w.heap.size w w' := by
  have HB : Hid (∀ o p, Below w.heap.size w ((w.alloc o).alloc p)) := fun o p => ((Below.refl _ _).alloc (Nat.le_refl _) o).alloc (by simp) p
  have q1 : (a == a) = true := by simp
  have q2 : (b == b) = true := by simp
  go_enter Tryd.func29, Tryd.ntmps29
  go_wp2
  go_ret
  exact ⟨rfl, HB.out _ _⟩
set_option maxHeartbeats 8000000 in
theorem lawJudge (w : World) (v : Value) (l : List Ln) (hl : l.length ≤ maxLen) (hz : ∀ r ∈ l, r.2.2.1.size ≤ maxLen ∧ r.2.2.2.size ≤ maxLen) (hv : SliceIs w v l) (u t : ByteArray) (hu : u.size ≤ maxLen) (ht : t.size ≤ maxLen) :
    Calls Tryd.prog 8 #[v, .string u, .string t] w fun r w' => r = .returned (.bool true) ∧ Below w.heap.size w w' := by
  have HV : Hid (∀ u1, Below w.heap.size w u1 → SliceIs u1 v l) := fun u1 h => hv.up h
  have hsz := szRules_any v l 1048576 w (by decide) (Int.le_refl _) hl hz hv
  obtain ⟨p, cap, rfl⟩ := hv.shape
  have HB0 : Hid (Below w.heap.size w w) := Below.refl _ _
  have hu' := hu
  have ht' := ht
  unfold maxLen at hu' ht'
  clear hv
  by_cases g1 : (1048576 : Int) < (u.size : Int)
  · clear hsz hz
    go_enter Tryd.func8, Tryd.ntmps8
    go_wp2
    go_ret
    exact ⟨rfl, HB0.out⟩
  · by_cases g2 : (1048576 : Int) < (t.size : Int)
    · clear hsz hz
      go_enter Tryd.func8, Tryd.ntmps8
      go_wp2
      go_ret
      exact ⟨rfl, HB0.out⟩
    · go_enter Tryd.func8, Tryd.ntmps8
      go_wp2_with (go_at_call 13; fail)
      refine hsz.mono ?_
      rintro r u1 ⟨rfl, hb⟩
      have i : Below w.heap.size w u1 := hb
      clear hb hsz HB0
      by_cases hneg : szV 1048576 l < 0
      · have HB : Hid (Below w.heap.size w u1) := i
        generalize szV 1048576 l = z at *
        clear i hz
        go_wp2
        go_ret
        exact ⟨rfl, HB.out⟩
      · have hs2 := szV_ok hneg (Int.le_refl _)
        generalize szV 1048576 l = z at *
        have hto := fun u (h : Below w.heap.size w u) => toRules_any (.slice p l.length cap) l u hs2 (HV.out u h)
        have hm := fun vv u1 (h : SliceIs u1 vv l) => judgeM_any vv l u t u1 hl hz h hu ht
        have hi := fun vv u1 (h : SliceIs u1 vv l) => judgeI_any vv l u t u1 hl hz h hu ht
        have HI : Hid (Below w.heap.size w u1) := i
        clear i
        go_wp2_with (go_at_call 15; fail)
        refine (hto _ HI.out).mono ?_
        rintro r u2 ⟨rfl, hb, hk⟩
        replace HI : Hid (Below w.heap.size w u2) := HI.out.trans (hb.mono HI.out.size)
        clear hb
        go_wp2_with (go_at_call 27; fail)
        refine (hm _ _ hk.slice).mono ?_
        rintro r u3 ⟨⟨a, b, rfl, hJ⟩, hb⟩
        replace HI : Hid (Below w.heap.size w u3) := HI.out.trans (hb.mono HI.out.size)
        have HJ : Hid (JudgeIs l u t a b) := hJ
        clear hb hk hm hJ
        go_wp2_with (go_at_call 15; fail)
        obtain ⟨q, hq⟩ : ∃ q, q = u3.heap.size := ⟨_, rfl⟩
        rw [← hq]
        refine calls_w (fun u4 => Below w.heap.size w u4 ∧ rw.At u4 q #[.int .i64 a, .int .i64 b] 45) ⟨HI.out.alloc HI.out.size _, by rw [hq]; exact rw.At.new _ _ _⟩ ?_
        clear HI hq
        rintro u4 ⟨i4, a4⟩
        refine (hto _ i4).mono ?_
        rintro r u5 ⟨rfl, hb, hk⟩
        have i : InL w u4.heap.size l u5 := ⟨i4.trans (hb.mono i4.size), hk⟩
        replace a4 := a4.up hb
        obtain ⟨g, hg⟩ : ∃ g, g = u4.heap.size := ⟨_, rfl⟩
        rw [← hg] at i ⊢
        clear hb hk i4 hg
        go_wp2_with (go_at_call 28; fail)
        refine (hi _ _ i.2.slice).mono ?_
        rintro r u6 ⟨⟨a', b', rfl, hJ⟩, hb⟩
        obtain ⟨rfl, rfl⟩ := HJ.out.uniq hJ
        replace i := i.up hb
        replace a4 := a4.up hb
        clear hb hi hJ HJ
        have e0 := fun o => (a4.up (rw.up_alloc _ o)).cell 0
        have e1 := fun o => (a4.up (rw.up_alloc _ o)).cell 1
        have HX : Hid (∀ o, InL w g l (u6.alloc o)) := fun o => i.up (rw.up_alloc _ o)
        clear i
        go_wp2_with (go_at_call 29; fail)
        refine (eqVer_any a b _).mono ?_
        rintro r u7 ⟨rfl, hb⟩
        have i := (HX.out _).up hb
        clear HX hb e0 e1 a4
        go_wp2_with (go_at_call 15; fail)
        refine (hto _ i.1).mono ?_
        rintro r w7 ⟨rfl, hb7, hk7⟩
        replace i := i.up hb7
        clear hb7
        go_wp2_with (go_at_call 17; fail)
        refine (eqRules_any _ _ _ _ hl i.2.slice hk7.slice).mono ?_
        rintro r w8 ⟨rfl, hb8⟩
        replace i := i.up hb8
        have HB : Hid (Below w.heap.size w w8) := i.1
        clear i hk7 hb8
        go_wp2
        go_ret
        exact ⟨rfl, HB.out⟩
end Go.Proofs.YtndjjhcdnlkekaaDoor.rl
