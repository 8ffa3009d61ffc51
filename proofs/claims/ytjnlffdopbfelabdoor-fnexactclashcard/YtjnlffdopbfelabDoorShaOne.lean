/-
  The program's digest of one text and of two: what the plain function tells; no old block turns. Condition: the table of the rounds' numbers lies in its variable.
-/
import Derived.Test.YtjnlffdopbfelabDoorShaDigest
namespace Go.Proofs.YtjnlffdopbfelabDoor.sh
open Go.ChangeShapes Go.WideShapes Go.ChangeAt Go.RowKit
set_option linter.unusedVariables false

def flat (ss : List ByteArray) : List UInt8 := ss.flatMap (fun s => s.data.toList)
theorem flat_app (a b : List ByteArray) : flat (a ++ b) = flat a ++ flat b := by unfold flat; rw [List.flatMap_append]
theorem flat_one (a : ByteArray) : flat [a] = a.data.toList := by simp [flat]
theorem flat_succ (ss : List ByteArray) (k : Nat) (h : k < ss.length) : flat (ss.take (k + 1)) = flat (ss.take k) ++ ss[k].data.toList := by
  rw [List.take_succ_eq_append_getElem h, flat_app, flat_one]
theorem flat_le (ss : List ByteArray) (k : Nat) : (flat (ss.take k)).length ≤ (flat ss).length := by
  have h : flat (ss.take k ++ ss.drop k) = flat ss := by rw [List.take_append_drop]
  rw [← h, flat_app, List.length_append]
  omega
theorem item_le (ss : List ByteArray) (k : Nat) (h : k < ss.length) : ss[k].size ≤ (flat ss).length := by
  have := flat_le ss (k + 1)
  rw [flat_succ ss k h, List.length_append] at this
  have e : ss[k].data.toList.length = ss[k].size := by simp
  omega
/-- the digest of bytes, as a text -/
def shaB (l : List UInt8) : ByteArray := ⟨(sha l).toArray⟩
theorem shaB_size (l : List UInt8) : (shaB l).size = 32 := by simp [shaB, ByteArray.size, sha_length]

set_option maxRecDepth 20000 in
set_option maxHeartbeats 4000000 in
theorem digestOf_any (ss : List ByteArray) (b cap : Nat) (w : World) (hb : b < w.heap.size) (hn : ss.length ≤ 1000) (htot : (flat ss).length ≤ 20000) (hT : Tab w)
    (hc : ∀ i (h : i < ss.length), w.cell? ⟨b, i, none⟩ = some (.string ss[i])) :
    Calls Tryd.prog 37 #[.slice (some ⟨b, 0, none⟩) ss.length cap] w fun e w' => e = .returned (.string (shaB (flat ss))) ∧ Below w.heap.size w w' := by
  have HC : Hid (∀ i (h : i < ss.length), w.cell? ⟨b, i, none⟩ = some (.string ss[i])) := hc
  have hgl := hT.lt
  clear hc
  go_enter Tryd.func37, Tryd.ntmps37
  go_wp2_with (go_at_call 42; refine (new_any w).mono ?_; rintro e w1 ⟨rfl, hH1, hB1⟩)
  have HT1 : Hid (Tab w1) := hT.up hB1
  go_loopw [5, 9] (fun _ i u => ∃ k : Nat, k ≤ ss.length ∧ i = .int .i64 k ∧ Hid (Has u w.heap.size (flat (ss.take k))) ∧ Hid (Tab u) ∧ Below w.heap.size w u) (fun _ i _ => ss.length - (intOf i).toNat)
  case atStart => exact ⟨0, by omega, rfl, hH1, HT1, hB1⟩
  case round =>
    clear hH1 HT1 hB1
    obtain ⟨k, hk, rfl, HH, HT, hB⟩ := hrel
    have hfl := flat_le ss k
    by_cases hlt : k < ss.length
    · have hcell : wr.cell? ⟨b, k, none⟩ = some (.string ss[k]) := by rw [hB.cell (p := ⟨b, k, none⟩) hb]; exact HC.out k hlt
      have hil := item_le ss k hlt
      have HF : Hid (flat (ss.take (k + 1)) = flat (ss.take k) ++ ss[k].data.toList) := flat_succ ss k hlt
      go_wp2_with (go_at_call 43; refine (write_has w.heap.size (flat (ss.take k)) ss[k] wr (by omega) (by omega) HH.out HT.out hgl).mono ?_; rintro e w2 ⟨rfl, hH2, hT2, hG2⟩; have HH2 : Hid (Has w2 w.heap.size (flat (ss.take k) ++ ss[k].data.toList)) := hH2; have HT2 : Hid (Tab w2) := hT2; have HB2 : Hid (Below w.heap.size w w2) := hB.grown hG2 hB.size (fun k hk => by cases hk; exact Nat.le_refl _); clear hH2 hT2 hG2)
      go_roundw
      case rel => exact ⟨k + 1, by omega, by go_num, by rw [HF.out]; exact HH2, HT2, HB2.out⟩
      case measure => simp [intOf]; omega
    · obtain rfl : k = ss.length := by omega
      have HH' : Hid (Has wr w.heap.size (flat ss)) := by have := HH.out; rw [List.take_length] at this; exact this
      go_wp2_with (go_at_call 44; refine (finish_any w.heap.size (flat ss) wr (by omega) HH'.out HT.out hgl).mono ?_; rintro e w2 ⟨rfl, hG2⟩)
      go_ret
      exact ⟨rfl, hB.grown hG2 hB.size (fun k hk => by cases hk; exact Nat.le_refl _)⟩
theorem digest1 (s : ByteArray) (u : World) (h : s.size ≤ 20000) (hT : Tab u) :
    Calls Tryd.prog 37 #[.slice (some ⟨u.heap.size, 0, none⟩) 1 1] (u.alloc (.cells #[.string s] 9)) fun e w' => e = .returned (.string (shaB s.data.toList)) ∧ Below u.heap.size u w' := by
  have hB : Below u.heap.size u (u.alloc (.cells #[.string s] 9)) := (Below.refl _ _).alloc (Nat.le_refl _) _
  refine (digestOf_any [s] u.heap.size 1 (u.alloc (.cells #[.string s] 9)) (by simp) (by simp) (by simp [flat]; omega) (hT.up hB) (fun i hi => ?_)).mono ?_
  · match i, hi with
    | 0, _ => simp
  · rintro e w' ⟨rfl, hb⟩
    exact ⟨ret_str (by simp [flat]), hB.trans (hb.mono hB.size)⟩
theorem digest2 (s t : ByteArray) (u : World) (h : s.size + t.size ≤ 20000) (hT : Tab u) :
    Calls Tryd.prog 37 #[.slice (some ⟨u.heap.size, 0, none⟩) 2 2] (u.alloc (.cells #[.string s, .string t] 9)) fun e w' => e = .returned (.string (shaB (s.data.toList ++ t.data.toList))) ∧ Below u.heap.size u w' := by
  have hB : Below u.heap.size u (u.alloc (.cells #[.string s, .string t] 9)) := (Below.refl _ _).alloc (Nat.le_refl _) _
  refine (digestOf_any [s, t] u.heap.size 2 (u.alloc (.cells #[.string s, .string t] 9)) (by simp) (by simp) (by simp [flat]; omega) (hT.up hB) (fun i hi => ?_)).mono ?_
  · match i, hi with
    | 0, _ => simp
    | 1, _ => simp
  · rintro e w' ⟨rfl, hb⟩
    exact ⟨ret_str (by simp [flat]), hB.trans (hb.mono hB.size)⟩

/-- what Digest answers -/
def digestA (s : ByteArray) : ByteArray := if 8000 < s.size then ⟨#[]⟩ else shaB s.data.toList
theorem digestA_no {s : ByteArray} (h : 8000 < s.size) : digestA s = ⟨#[]⟩ := if_pos h
theorem digestA_yes {s : ByteArray} (h : ¬ 8000 < s.size) : digestA s = shaB s.data.toList := if_neg h
end Go.Proofs.YtjnlffdopbfelabDoor.sh
