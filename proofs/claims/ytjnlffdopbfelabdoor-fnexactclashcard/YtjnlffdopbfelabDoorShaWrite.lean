/-
  The program's write: a text is taken into a hash at work, block by block; nothing else of what was there turns.
-/
import Derived.Test.YtjnlffdopbfelabDoorShaMix
namespace Go.Proofs.YtjnlffdopbfelabDoor.sh
open Go.ChangeShapes Go.WideShapes Go.ChangeAt Go.RowKit
set_option linter.unusedVariables false

theorem cells10 {w : World} {p : Nat} {s : St} {rest : ByteArray} {size : Int} (h : At w p s rest size) :
    w.cell? ⟨p, 8, none⟩ = some (.string rest) ∧ w.cell? ⟨p, 9, none⟩ = some (.int .u64 size) ∧ (∀ j, w.frozen? ⟨p, j, none⟩ = false) := by
  unfold At at h
  refine ⟨by simp [World.cell?, h], by simp [World.cell?, h], fun j => ?_⟩
  simp [World.frozen?, h]
theorem At.rest {w : World} {p : Nat} {s : St} {rest : ByteArray} {size : Int} (h : At w p s rest size) (r : ByteArray) : At (w.setCell ⟨p, 8, none⟩ (.string r)) p s r size := by
  have h1 := heap_setCell_same w p 8 _ _ (.string r) h
  unfold At
  simpa only [List.setIfInBounds_toArray, List.set_cons_zero, List.set_cons_succ] using h1
theorem At.size {w : World} {p : Nat} {s : St} {rest : ByteArray} {size : Int} (h : At w p s rest size) (n : Int) : At (w.setCell ⟨p, 9, none⟩ (.int .u64 n)) p s rest n := by
  have h1 := heap_setCell_same w p 9 _ _ (.int .u64 n) h
  unfold At
  simpa only [List.setIfInBounds_toArray, List.set_cons_zero, List.set_cons_succ] using h1
theorem gtrans {w u u2 : World} {p : Nat} (h : w.grownBy u (some p)) (hg : u.grownBy u2 (some p)) : w.grownBy u2 (some p) :=
  ⟨hg.os.trans h.os, hg.tape.trans h.tape, hg.output.trans h.output, Nat.le_trans h.size hg.size, fun k hk hne =>
    (hg.block k (Nat.lt_of_lt_of_le hk h.size) hne).trans (h.block k hk hne)⟩
/-- how long the text in a cell is -/
def sizeIn : Option Value → Nat
  | some (.string r) => r.size
  | _ => 0

set_option maxRecDepth 20000 in
set_option maxHeartbeats 8000000 in
theorem write_any (s : St) (rest : ByteArray) (size : Int) (p : Nat) (t : ByteArray) (w : World) (hs : s.ok) (hr : rest.size ≤ 1000000) (h0 : 0 ≤ size) (h1 : size ≤ 1000000) (hl : t.size ≤ 1000000) (hp : At w p s rest size) (ht : Tab w) (hg : 0 < p) :
    Calls Tryd.prog 43 #[.pointer (some ⟨p, 0, none⟩), .string t] w fun e w' => e = .returned (.tuple #[]) ∧ (∃ (s' : St) (r' : ByteArray), s'.ok ∧ (s', r'.data.toList) = take s (rest.data.toList ++ t.data.toList) ∧ At w' p s' r' (size + t.size)) ∧ w.grownBy w' (some p) := by
  obtain ⟨c8, c9, hf⟩ := cells10 hp
  have f8 := hf 8
  have f9 := hf 9
  have HP : Hid (At w p s rest size) := hp
  clear hp hf
  go_enter Tryd.func43, Tryd.ntmps43
  go_wp2
  refine wp_world (fun u => At u p s (rest ++ t) (size + t.size) ∧ w.grownBy u (some p)) ⟨(HP.out.size _).rest _, gset (gset (World.grownBy.refl _ _) _ _) _ _⟩ ?_
  rintro u ⟨hA, hG⟩
  clear c8 c9 f8 f9
  go_loopw [22] (fun _ u => ∃ (s' : St) (r' : ByteArray), s'.ok ∧ Hid (take s' r'.data.toList = take s (rest.data.toList ++ t.data.toList)) ∧ r'.size ≤ 2000000 ∧ Hid (At u p s' r' (size + t.size)) ∧ Hid (w.grownBy u (some p))) (fun _ u => sizeIn (u.cell? ⟨p, 8, none⟩))
  case atStart => exact ⟨s, rest ++ t, hs, by show _ = _; simp, by simp; omega, hA, hG⟩
  case round =>
    clear hA hG
    obtain ⟨s', r', hs', HT', hr', HA, HG⟩ := hrel
    obtain ⟨c8, c9, hf⟩ := cells10 HA.out
    have f8 := hf 8
    clear hf c9
    by_cases hlt : 64 ≤ r'.size
    · have hex : (r'.extract 0 64).size = 64 := by simp; omega
      have HTB : Hid (Tab wr) := ht.grown HG.out hg
      have hZ : sizeIn (wr.cell? ⟨p, 8, none⟩) = r'.size := by rw [c8]; rfl
      go_wp2
      go_region_with (go_at_call 45; refine (mix_any s' r' (size + t.size) p _ wr.drew hs' hex HA.out HTB.out hg).mono ?_; rintro e w2 ⟨rfl, hA2, hG2⟩; have HA2 : Hid (At w2 p (block s' (r'.extract 0 64).data.toList) r' (size + t.size)) := hA2; have HG2 : Hid (wr.drew.grownBy w2 (some p)) := hG2; clear c8 f8 hA2 hG2; obtain ⟨c8, c9, hf⟩ := cells10 HA2.out; have f8 := hf 8; clear hf c9)
      all_goals
        have HA3 : Hid (At (w2.setCell ⟨p, 8, none⟩ (.string (r'.extract 64 r'.size))) p (block s' (r'.extract 0 64).data.toList) (r'.extract 64 r'.size) (size + t.size)) := HA2.out.rest _
        have HG3 : Hid (w.grownBy (w2.setCell ⟨p, 8, none⟩ (.string (r'.extract 64 r'.size))) (some p)) := gset (gtrans (gdrew1 HG.out) HG2.out) _ _
        have HE : Hid (take (block s' (r'.extract 0 64).data.toList) (r'.extract 64 r'.size).data.toList = take s (rest.data.toList ++ t.data.toList)) := by
          show _ = _
          rw [← HT'.out, take_ge (s := s') (l := r'.data.toList) (by simpa using hlt)]
          simp only [ByteArray.data_extract, Array.toList_extract, List.extract_eq_take_drop, Nat.sub_zero, List.drop_zero]
          rw [List.take_of_length_le (l := List.drop 64 r'.data.toList) (by simp)]
        go_wp2
        go_roundw
        case rel => exact ⟨_, _, block_ok _ _, HE, by simp; omega, HA3, HG3⟩
        case measure =>
          rw [hZ, (cells10 HA3.out).1]
          simp [sizeIn]; omega
    · go_wp2
      go_end0
      refine ⟨rfl, ⟨s', r', hs', ?_, HA.out⟩, HG.out⟩
      rw [← HT'.out, take_lt (by simpa using hlt)]
end Go.Proofs.YtjnlffdopbfelabDoor.sh
