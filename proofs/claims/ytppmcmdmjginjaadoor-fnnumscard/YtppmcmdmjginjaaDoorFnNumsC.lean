/-
  The law on numbers at a source's bytes: it answers true, whatever is drawn; errors.errorType holds what the program's text lays in it.
-/
import Derived.Test.YtppmcmdmjginjaaDoorDrawNums
import Derived.Test.YtppmcmdmjginjaaDoorNumBack
import Derived.Test.YtppmcmdmjginjaaDoorGetTextI
namespace Go.Proofs.YtppmcmdmjginjaaDoor.fn
open Go.ChangeShapes Go.WideShapes Go.ChangeAt Go.RowKit
open Go.Proofs.YtppmcmdmjginjaaDoor.dr Go.Proofs.YtppmcmdmjginjaaDoor.dn Go.Proofs.YtppmcmdmjginjaaDoor.np Go.Proofs.YtppmcmdmjginjaaDoor.tp
set_option linter.unusedVariables false

theorem toList_data (s : ByteArray) : s.toList = s.data.toList := ByteArray.toList_eq s
theorem fieldN (n a c : Int) (u : World) : (Instr.field 26 (.agg #[.int .i64 n, .int .i64 a, .int .i64 c]) 2).run Tryd.prog u = .ok (.int .i64 c) u := by kernel_rfl
theorem fieldT (t : ByteArray) (a c : Int) (u : World) : (Instr.field 31 (.agg #[.string t, .int .i64 a, .int .i64 c]) 2).run Tryd.prog u = .ok (.int .i64 c) u := by kernel_rfl

theorem ext0 (s : ByteArray) (b : Nat) : (s.extract 0 b).data.toList = s.data.toList.take b := by simp [ByteArray.data_extract]

theorem num_back {v : Int} (hv : pn.i64P v) (u : World) (hg : ea.Laid u) :
    Calls Tryd.prog 8 #[.string (({ data := #[120, 121] } : ByteArray) ++ pn.numB v ++ { data := #[122] }), .int .i64 2] u fun e w' => e = .returned (.agg #[.int .i64 v, .int .i64 (((pn.numB v).size : Int) + 2), .int .i64 0]) ∧ Below u.heap.size u w' := by
  have h10 := pt.numB_size_le hv
  have hsz : (({ data := #[120, 121] } : ByteArray) ++ pn.numB v ++ { data := #[122] }).size = 2 + (pn.numB v).size + 1 := by
    rw [ByteArray.size_append, ByteArray.size_append]; rfl
  have h := gi.impl_any (({ data := #[120, 121] } : ByteArray) ++ pn.numB v ++ { data := #[122] }) 2 u (by unfold maxLen; omega) (by decide) hg
  have hb := nb.num_back (s := ({ data := #[120, 121] } : ByteArray) ++ pn.numB v ++ { data := #[122] }) (x := { data := #[120, 121] }) (y := { data := #[122] }) hv (by simp)
  have e2 : ((({ data := #[120, 121] } : ByteArray).size : Nat) : Int) = 2 := rfl
  rw [e2] at hb
  rw [numV_short (by omega), hb] at h
  have e3 : ((({ data := #[120, 121] } : ByteArray).size + (pn.numB v).size : Nat) : Int) = ((pn.numB v).size : Int) + 2 := by
    have : ({ data := #[120, 121] } : ByteArray).size = 2 := rfl
    omega
  rw [e3] at h
  exact h
theorem num_short {v : Int} (hv : pn.i64P v) (u : World) (hg : ea.Laid u) :
    Calls Tryd.prog 8 #[.string ((pn.numB v).extract 0 ((pn.numB v).size - 1)), .int .i64 0] u fun e w' => e = .returned (.agg #[.int .i64 0, .int .i64 0, .int .i64 4]) ∧ Below u.heap.size u w' := by
  have h10 := pt.numB_size_le hv
  have hsz : ((pn.numB v).extract 0 ((pn.numB v).size - 1)).size ≤ 10 := by simp; omega
  have h := gi.impl_any ((pn.numB v).extract 0 ((pn.numB v).size - 1)) 0 u (by unfold maxLen; omega) (by decide) hg
  rw [numV_short (by omega), nb.num_short (s := (pn.numB v).extract 0 ((pn.numB v).size - 1)) hv (ext0 _ _)] at h
  exact h
theorem putB_size {q : ByteArray} (h : ¬ 8000 < q.size) : (pt.putB q).size = (pn.numB (q.size : Int)).size + q.size := by
  rw [pt.putB_yes h, ByteArray.size_append]
theorem text_back {q : ByteArray} (h8 : ¬ 8000 < q.size) (hp : ¬ 8000 < (pt.putB q).size + 1) (u : World) (hg : ea.Laid u) :
    Calls Tryd.prog 12 #[.string (({ data := #[120] } : ByteArray) ++ pt.putB q), .int .i64 1] u fun e w' => e = .returned (.agg #[.string q, .int .i64 (((pt.putB q).size : Int) + 1), .int .i64 0]) ∧ Below u.heap.size u w' := by
  have hps := putB_size h8
  have hsz : (({ data := #[120] } : ByteArray) ++ pt.putB q).size = 1 + (pt.putB q).size := by rw [ByteArray.size_append]; rfl
  have h := gt.impl_any (({ data := #[120] } : ByteArray) ++ pt.putB q) 1 u (by unfold maxLen; omega) (by decide) hg
  have hb := nb.text_back (s := ({ data := #[120] } : ByteArray) ++ pt.putB q) (x := { data := #[120] }) (u := q) (by omega) (by omega) (by rw [pt.putB_yes h8]; simp)
  have e2 : ((({ data := #[120] } : ByteArray).size : Nat) : Int) = 1 := rfl
  rw [e2] at hb
  rw [hb] at h
  have e3 : ((({ data := #[120] } : ByteArray).size + (pn.numB (q.size : Int)).size + q.size : Nat) : Int) = ((pt.putB q).size : Int) + 1 := by
    have : ({ data := #[120] } : ByteArray).size = 1 := rfl
    omega
  rw [e3] at h
  exact h
theorem text_short {q : ByteArray} (h8 : ¬ 8000 < q.size) (hp : ¬ 8000 < (pt.putB q).size + 1) (u : World) (hg : ea.Laid u) :
    Calls Tryd.prog 12 #[.string ((pt.putB q).extract 0 ((pt.putB q).size - 1)), .int .i64 0] u fun e w' => (∃ (t : ByteArray) (m : Int), e = .returned (.agg #[.string t, .int .i64 m, .int .i64 4])) ∧ Below u.heap.size u w' := by
  have hps := putB_size h8
  have hsz : ((pt.putB q).extract 0 ((pt.putB q).size - 1)).size ≤ (pt.putB q).size := by simp
  have h := gt.impl_any ((pt.putB q).extract 0 ((pt.putB q).size - 1)) 0 u (by unfold maxLen; omega) (by decide) hg
  have hb := nb.text_short (s := (pt.putB q).extract 0 ((pt.putB q).size - 1)) (u := q) (by omega) (by omega) (by
    rw [ext0, hps, pt.putB_yes h8]
    simp)
  obtain ⟨t, m, c, ht⟩ : ∃ t m c, textV ((pt.putB q).extract 0 ((pt.putB q).size - 1)) 0 = (t, m, c) := ⟨_, _, _, rfl⟩
  rw [ht] at h hb
  obtain rfl : c = 4 := hb
  exact h.mono fun e w' ⟨he, hb'⟩ => ⟨⟨t, m, he⟩, hb'⟩
theorem putB_empty {q : ByteArray} (h : 8000 < q.size) : (pt.putB q).toList.isEmpty = true := by rw [pt.putB_no h, toList_data]; rfl
theorem putB_full {q : ByteArray} (h : ¬ 8000 < q.size) : (pt.putB q).toList.isEmpty = false := by
  have h1 := putB_size h
  have h2 := nb.numB_pos (q.size : Int)
  rw [toList_data]
  cases e : (pt.putB q).data.toList with
  | nil => have := congrArg List.length e; simp at this; rw [this] at h1; simp at h1; omega
  | cons x l => rfl

theorem calls_world {P : Program} {f : Nat} {args : Array Value} {w : World} {Q : Ending → World → Prop} (I : World → Prop) (hI : I w) (h : ∀ u, I u → Calls P f args u Q) : Calls P f args w Q := h w hI

set_option maxRecDepth 100000 in
set_option maxHeartbeats 8000000 in
theorem core (a0 : Option Addr) (len0 cap0 : Nat) (a1 : Option Addr) (len1 cap1 : Nat) (w : World) (c0 : Codes w w.heap.size a0 len0) (c1 : Codes w w.heap.size a1 len1) (hg : ea.Laid w) :
    Calls Tryd.prog 3 #[.slice a0 len0 cap0, .slice a1 len1 cap1] w fun e w' => e = .returned (.bool true) ∧ Below w.heap.size w w' := by
  have l0 := c0.1
  have l1 := c1.1
  have HC0 : Hid (Codes w w.heap.size a0 len0) := c0
  have HC1 : Hid (∀ u, Below w.heap.size w u → Codes u u.heap.size a1 len1) := fun u hb => by
    obtain ⟨hl, h⟩ := c1.below hb
    refine ⟨hl, h.imp id fun ⟨b, off, e, hB, hc⟩ => ⟨b, off, e, by have := hb.size; omega, hc⟩⟩
  have HG : Hid (∀ u, Below w.heap.size w u → ea.Laid u) := fun u hb => hg.below hb
  clear c0 c1
  have hfN := fieldN
  have hfT := fieldT
  go_enter Tryd.func3, Tryd.ntmps3
  go_wp2_with (first | (go_at_call 5; refine (drawPutNum_any a0 len0 cap0 _ HC0.out).mono ?_; rintro e w1 ⟨v, rfl, v0, v1, hb1⟩; have hv : pn.i64P v := ⟨v0, v1⟩; have h10 := pt.numB_size_le hv; have h01 := nb.numB_pos v) | (go_at_call 6; refine (pn.impl_any _ _ hv).mono ?_; rintro e w2 ⟨rfl, hb2⟩; have hB2 := hb1.trans (hb2.mono hb1.size)) | (go_at_call 7; refine (pn.spec_any _ _ hv).mono ?_; rintro e w3 ⟨rfl, hb3⟩; have hB3 := hB2.trans (hb3.mono hB2.size)) | (go_at_call 8; fail))
  refine (num_back hv _ (HG.out _ hB3)).mono ?_
  rintro e w4 ⟨rfl, hb4⟩
  have hB4 := hB3.trans (hb4.mono hB3.size)
  clear hb1 hb2 hb3 hB2
  go_wp2_with fail
  refine calls_world (Below w.heap.size w) (hB4.alloc hB4.size _) ?_
  intro u4 hU4
  refine (num_short hv u4 (HG.out _ hU4)).mono ?_
  rintro e w5 ⟨rfl, hb5⟩
  have hB5 := hU4.trans (hb5.mono hU4.size)
  clear hb4 hB4 hB3 hb5 hU4
  go_wp2_with fail
  refine (drawPutText_any a1 len1 cap1 _ (HC1.out _ hB5)).mono ?_
  rintro e w6 ⟨q, rfl, hq, hb6⟩
  have hB6 := hB5.trans (hb6.mono hB5.size)
  have hqm : q.size ≤ maxLen := (by unfold maxLen; omega)
  clear hb6 hB5
  go_wp2_with fail
  refine (pt.impl_any _ _ hqm).mono ?_
  rintro e w7 ⟨rfl, hb7⟩
  have hB7 := hB6.trans (hb7.mono hB6.size)
  clear hb7 hB6
  by_cases hQ : 8000 < q.size
  · have hE := putB_empty hQ
    go_wp2_with (go_at_call 11; refine (pt.spec_any _ _ hqm).mono ?_; rintro e w8 ⟨rfl, hb8⟩; have hB8 := Below.trans (show Below w.heap.size w _ by assumption) (hb8.mono (Below.size (show Below w.heap.size w _ by assumption))); clear hb8)
    go_ret
    exact ⟨rfl, by assumption⟩
  · have hE := putB_full hQ
    have hqs := putB_size hQ
    have hqn := pt.numB_size_le (pt.i64_size hQ)
    have hqp := nb.numB_pos (q.size : Int)
    have HS : Hid ((pt.putB q).size = (pn.numB (q.size : Int)).size + q.size) := hqs
    have hsz : (pt.putB q).size ≤ 8010 := by omega
    have hsp : 1 ≤ (pt.putB q).size := by omega
    clear hqs hqn hqp
    go_wp2_with fail
    refine (pt.spec_any _ _ hqm).mono ?_
    rintro e w8 ⟨rfl, hb8⟩
    have hB8 := hB7.trans (hb8.mono hB7.size)
    clear hb8 hB7
    by_cases hP : 8000 < (pt.putB q).size + 1
    · go_wp2_with fail
      go_ret
      exact ⟨rfl, hB8⟩
    · go_wp2_with fail
      refine (text_back hQ hP _ (HG.out _ hB8)).mono ?_
      rintro e w9 ⟨rfl, hb9⟩
      have hB9 := hB8.trans (hb9.mono hB8.size)
      clear hb9 hB8
      go_wp2_with fail
      refine (text_short hQ hP _ (HG.out _ hB9)).mono ?_
      rintro e w10 ⟨⟨t, m, rfl⟩, hb10⟩
      have hB10 := hB9.trans (hb10.mono hB9.size)
      clear hb10 hB9
      go_wp2_with fail
      go_ret
      exact ⟨rfl, hB10⟩
end Go.Proofs.YtppmcmdmjginjaaDoor.fn
