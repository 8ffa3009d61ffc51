/-
  Slices of texts in the law's hands: a slice's places are marked, looked at again. No condition.
-/
import Derived.Test.YtndjjhcdnlkekaaDoorLogS0
import Derived.WalkMore
namespace Go.Proofs.YtndjjhcdnlkekaaDoor.ss
open Go.ChangeShapes Go.WideShapes Go.ChangeAt Go.RowKit
open Go.Proofs.YtndjjhcdnlkekaaDoor.wi (heap_lt calls_w wp_w)
set_option linter.unusedVariables false

/-- a number's digits ahead of a text -/
def mt : Nat → Nat → ByteArray → ByteArray
  | 0, _, o => o
  | f + 1, k, o => if k = 0 then o else mt f (k / 10) (strOfNums [((48 + k % 10 : Nat) : Int)] ++ o)
theorem mt_zero : ∀ (f : Nat) (o : ByteArray), mt f 0 o = o
  | 0, _ => rfl
  | f + 1, o => if_pos rfl
theorem mt_any : ∀ (f g k : Nat) (o : ByteArray), k ≤ f → k ≤ g → mt f k o = mt g k o
  | 0, g, k, o, h, _ => by
    obtain rfl : k = 0 := by omega
    rw [mt_zero, mt_zero]
  | f + 1, 0, k, o, _, h => by
    obtain rfl : k = 0 := by omega
    rw [mt_zero, mt_zero]
  | f + 1, g + 1, k, o, h1, h2 => by
    by_cases h : k = 0
    · subst h; rw [mt_zero, mt_zero]
    · show (if k = 0 then o else mt f (k / 10) _) = if k = 0 then o else mt g (k / 10) _
      rw [if_neg h, if_neg h]
      exact mt_any f g _ _ (by omega) (by omega)
theorem mt_step {f k : Nat} {o : ByteArray} (h : k ≠ 0) (hf : k ≤ f) : mt f k o = mt f (k / 10) (strOfNums [((48 + k % 10 : Nat) : Int)] ++ o) := by
  rw [mt_any f (f + 1) k o hf (by omega)]
  show (if k = 0 then o else _) = _
  rw [if_neg h]
/-- the text of a mark -/
def markT (k : Nat) : ByteArray := ⟨#[109]⟩ ++ mt k k ⟨#[]⟩
theorem conv_one (w : World) (y : Int) : (convert 78 9 (.slice (some ⟨w.heap.size, 0, none⟩) 1 1)).run Tryd.prog (w.alloc (.cells #[.int .u8 y] 5)) = .ok (.string (strOfNums [y])) (w.alloc (.cells #[.int .u8 y] 5)) := by
  refine run_convert_bytes_arg (P := Tryd.prog) _ 78 5 Tryd.underlying78 Tryd.underlying5 w.heap.size 0 1 1 [y] rfl (fun i hi => ?_) 9 Tryd.underlying9
  obtain rfl : i = 0 := by omega
  have h : (w.alloc (.cells #[.int .u8 y] 5)).heap[w.heap.size]? = some (.cells #[.int .u8 y] 5 (0, 0)) := heap_alloc_new _ _
  unfold World.cell?
  rw [show ((⟨w.heap.size, 0 + 0, none⟩ : Addr).block) = w.heap.size from rfl, h]
  rfl
set_option maxRecDepth 20000 in
set_option maxHeartbeats 8000000 in
theorem markText_any (K : Nat) (w : World) (h0 : 1 ≤ K) (h1 : K ≤ 4194304) :
    Calls Tryd.prog 62 #[.int .i64 (K : Int)] w fun r w' => r = .returned (.string (markT K)) ∧ Below w.heap.size w w' := by
  have HB : Hid (Below w.heap.size w w) := Below.refl _ _
  have HM : Hid (markT K = ⟨#[109]⟩ ++ mt K K ⟨#[]⟩) := rfl
  obtain ⟨M, hM⟩ : ∃ M, M = markT K := ⟨_, rfl⟩
  rw [← hM] at HM ⊢
  clear hM
  go_enter Tryd.func62, Tryd.ntmps62
  go_wp2
  go_loopw [0, 3] (fun kv ov u => ∃ (k : Nat) (o : ByteArray), kv = .int .i64 k ∧ ov = .string o ∧ Hid (k + o.size ≤ K) ∧ Hid (mt K k o = mt K K ⟨#[]⟩) ∧ Hid (Below w.heap.size w u)) (fun kv _ _ => (intOf kv).toNat)
  case atStart => exact ⟨K, _, rfl, rfl, by show K + 0 ≤ K; omega, rfl, HB⟩
  case round =>
    obtain ⟨k, o, rfl, rfl, HK, HT, HU⟩ := hrel
    have hk := HK.out
    by_cases hk0 : 0 < k
    · have hconv := conv_one wr (48 + (k : Int) % 10)
      have HT3 : Hid (mt K (k / 10) (strOfNums [48 + (k : Int) % 10] ++ o) = mt K K ⟨#[]⟩) := by
        show _ = _
        rw [← HT.out, mt_step (show k ≠ 0 by omega) (by omega)]
        have e : ((48 + k % 10 : Nat) : Int) = 48 + (k : Int) % 10 := by omega
        rw [e]
      have hz1 : (strOfNums [48 + (k : Int) % 10]).size = 1 := by rw [strOfNums_size]; rfl
      obtain ⟨q, hq⟩ : ∃ q, q = strOfNums [48 + (k : Int) % 10] := ⟨_, rfl⟩
      rw [← hq] at hconv HT3 hz1
      have HU2 : Hid (∀ o, Below w.heap.size w (wr.alloc o)) := fun o => HU.out.alloc HU.out.size o
      clear hq HT HM
      go_wp2
      refine ⟨⟨k / 10, q ++ o, by go_num, rfl, ?_, HT3, HU2.out _⟩, by simp [intOf]; omega⟩
      show k / 10 + (q ++ o).size ≤ K
      rw [ByteArray.size_append]; omega
    · obtain rfl : k = 0 := by omega
      have HT2 : Hid (M = ⟨#[109]⟩ ++ o) := by show _ = _; rw [HM.out, ← HT.out, mt_zero]
      clear HT HM
      go_wp2
      go_ret
      exact ⟨by rw [HT2.out]; rfl, HU.out⟩
end Go.Proofs.YtndjjhcdnlkekaaDoor.ss
