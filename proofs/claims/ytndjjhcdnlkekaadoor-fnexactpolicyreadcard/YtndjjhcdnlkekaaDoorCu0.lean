/-
  The library's Cut at one byte, and CutPrefix. No condition.
-/
import Derived.Test.YtndjjhcdnlkekaaDoorGl2
import Derived.Lib.Strings
import Derived.Lib.Slices
import Derived.Lib.Walk
import Derived.Lib.Bytealg
namespace Go.Proofs.YtndjjhcdnlkekaaDoor.cu
open Go.ChangeShapes Go.WideShapes Go.ChangeAt Go.RowKit
open Go.Proofs.YtndjjhcdnlkekaaDoor.gb (bat bat_eq)
open Classical
set_option linter.unusedVariables false

theorem index_cases (c : UInt8) : ∀ l : List UInt8, (Lib.indexByte l c = -1 ∧ ∀ j, j < l.length → l.getD j 0 ≠ c) ∨ ∃ n : Nat, n < l.length ∧ Lib.indexByte l c = (n : Int) ∧ l.getD n 0 = c ∧ ∀ j, j < n → l.getD j 0 ≠ c
  | [] => .inl ⟨rfl, fun j h => by simp at h⟩
  | b :: l => by
    by_cases hb : b = c
    · refine .inr ⟨0, by simp, ?_, by simpa using hb, fun j h => by omega⟩
      simp [Lib.indexByte, hb]
    · have hb' : (b == c) = false := beq_eq_false_iff_ne.2 hb
      rcases index_cases c l with ⟨h1, h2⟩ | ⟨n, h1, h2, h3, h4⟩
      · refine .inl ⟨by simp [Lib.indexByte, hb', h1], fun j h => ?_⟩
        cases j with
        | zero => simpa using hb
        | succ j => simpa using h2 j (by simpa using h)
      · refine .inr ⟨n + 1, by simp; omega, ?_, by simpa using h3, fun j h => ?_⟩
        · have hn : ((n : Int) == -1) = false := beq_eq_false_iff_ne.2 (by omega)
          simp [Lib.indexByte, hb', h2, hn]
        · cases j with
          | zero => simpa using hb
          | succ j => simpa using h4 j (by omega)
/-- where the byte first is -/
def FirstAt (s : ByteArray) (c i : Nat) : Prop := i < s.size ∧ bat s i = c ∧ ∀ j, j < i → bat s j ≠ c
def NoneOf (s : ByteArray) (c : Nat) : Prop := ∀ j, j < s.size → bat s j ≠ c
theorem index_of (s : ByteArray) (c : UInt8) : (Lib.indexByte s.data.toList c = -1 ∧ NoneOf s c.toNat) ∨ ∃ n : Nat, Lib.indexByte s.data.toList c = (n : Int) ∧ FirstAt s c.toNat n := by
  have e : s.data.toList.length = s.size := by simp
  have hne : ∀ j, s.data.toList.getD j 0 ≠ c → bat s j ≠ c.toNat := fun j h h' => h (UInt8.toNat_inj.1 h')
  rcases index_cases c s.data.toList with ⟨h1, h2⟩ | ⟨n, h1, h2, h3, h4⟩
  · exact .inl ⟨h1, fun j h => hne j (h2 j (by omega))⟩
  · exact .inr ⟨n, h2, by omega, by unfold bat; rw [h3], fun j h => hne j (h4 j h)⟩
set_option maxHeartbeats 1000000 in
set_option maxRecDepth 100000 in
theorem indexB_any (s : ByteArray) (c : Int) (w : World) :
    Calls Tryd.prog 76 #[.string s, .int .u8 c] w fun e w' => e = .returned (.int .i64 (Lib.indexByte s.data.toList c.toNat.toUInt8)) ∧ w' = w := by
  go_enter Tryd.func76, Tryd.ntmps76
  go_wp2
  rw [run_callFunc_extern Tryd.func84 (by kernel_rfl) (by kernel_rfl) (by kernel_rfl) (e := Extern.BytealgIndexByte.indexByte) (by kernel_rfl), Lib.run_indexByteString]
  simp only [Result.andThen]
  rw [Oper.upon_value]
  go_wp2
  go_ret
  exact ⟨rfl, rfl⟩
set_option maxRecDepth 100000 in
set_option maxHeartbeats 2000000 in
theorem index_any (s : ByteArray) (c : UInt8) (w : World) :
    Calls Tryd.prog 70 #[.string s, .string ⟨#[c]⟩] w fun e w' => e = .returned (.int .i64 (Lib.indexByte s.data.toList c)) ∧ w' = w := by
  have hc : ((c.toNat : Int).toNat).toUInt8 = c := by simp
  have hx : ((⟨#[c]⟩ : ByteArray)[0]'(by show 0 < 1; omega)) = c := rfl
  have hi := fun u => indexB_any s (c.toNat : Int) u
  rw [hc] at hi
  clear hc
  have hcl : (⟨#[c]⟩ : ByteArray).toList = [c] := by rw [ByteArray.toList_eq]
  by_cases h : s = ⟨#[c]⟩
  · subst h
    have h2 : ([c] == [c]) = true := by simp
    have HF : Hid (Lib.indexByte (⟨#[c]⟩ : ByteArray).data.toList c = 0) := by
      show Lib.indexByte [c] c = 0
      simp [Lib.indexByte]
    clear hi
    go_enter Tryd.func70, Tryd.ntmps70
    go_wp2
    go_ret
    exact ⟨by rw [HF.out]; rfl, rfl⟩
  · have h2 : ([c] == s.toList) = false := by
      rw [← hcl]
      exact ss.beqF fun e => h e.symm
    clear hcl h
    go_enter Tryd.func70, Tryd.ntmps70
    go_wp2_with (go_at_call 76; (with_reducible refine (hi _).mono ?_); rintro r w' ⟨rfl, hw'⟩; obtain rfl := hw'.symm)
    go_ret
    exact ⟨rfl, rfl⟩
/-- what CutPrefix tells -/
def CutPOut (s p : ByteArray) (e : Ending) : Prop := (p.size ≤ s.size ∧ s.extract 0 p.size = p → e = .returned (.tuple #[.string (s.extract p.size s.size), .bool true])) ∧ (¬ (p.size ≤ s.size ∧ s.extract 0 p.size = p) → e = .returned (.tuple #[.string s, .bool false]))
theorem CutPOut.yes {s p : ByteArray} (h : p.size ≤ s.size ∧ s.extract 0 p.size = p) : CutPOut s p (.returned (.tuple #[.string (s.extract p.size s.size), .bool true])) := ⟨fun _ => rfl, fun h' => absurd h h'⟩
theorem CutPOut.no {s p : ByteArray} (h : ¬ (p.size ≤ s.size ∧ s.extract 0 p.size = p)) : CutPOut s p (.returned (.tuple #[.string s, .bool false])) := ⟨fun h' => absurd h' h, fun _ => rfl⟩
set_option maxHeartbeats 2000000 in
theorem cutp_any (s p : ByteArray) (w : World) (hs : s.size ≤ maxLen) (hp : p.size ≤ 20) :
    Calls Tryd.prog 61 #[.string s, .string p] w fun e w' => CutPOut s p e ∧ w' = w := by
  unfold maxLen at hs
  by_cases h1 : p.size ≤ s.size
  · by_cases h2 : s.extract 0 p.size = p
    · have h3 : ((s.extract 0 p.size).toList == p.toList) = true := ss.beqT h2
      have HC : Hid (CutPOut s p _) := CutPOut.yes ⟨h1, h2⟩
      clear h2
      go_enter Tryd.func61, Tryd.ntmps61
      go_wp2
      go_ret2
      exact ⟨HC.out, rfl⟩
    · have h3 : ((s.extract 0 p.size).toList == p.toList) = false := ss.beqF h2
      have HC : Hid (CutPOut s p _) := CutPOut.no (fun h => h2 h.2)
      clear h2
      go_enter Tryd.func61, Tryd.ntmps61
      go_wp2
      go_ret2
      exact ⟨HC.out, rfl⟩
  · have h3 : ¬ (p.size : Int) ≤ (s.size : Int) := by omega
    have HC : Hid (CutPOut s p _) := CutPOut.no (fun h => h1 h.1)
    clear h1
    go_enter Tryd.func61, Tryd.ntmps61
    go_wp2
    go_ret2
    exact ⟨HC.out, rfl⟩
/-- what Cut at one byte tells -/
def CutOut (s : ByteArray) (c : Nat) (e : Ending) : Prop := (∃ i, FirstAt s c i ∧ e = .returned (.tuple #[.string (s.extract 0 i), .string (s.extract (i + 1) s.size), .bool true])) ∨ NoneOf s c ∧ e = .returned (.tuple #[.string s, .string ⟨#[]⟩, .bool false])
set_option maxRecDepth 100000 in
set_option maxHeartbeats 2000000 in
theorem cut_any (s : ByteArray) (c : UInt8) (w : World) (hs : s.size ≤ maxLen) :
    Calls Tryd.prog 42 #[.string s, .string ⟨#[c]⟩] w fun e w' => CutOut s c.toNat e ∧ Below w.heap.size w w' := by
  unfold maxLen at hs
  have hi := fun u => index_any s c u
  have HB : Hid (Below w.heap.size w w) := Below.refl _ _
  rcases index_of s c with ⟨h1, h2⟩ | ⟨n, h1, h2⟩
  · rw [h1] at hi
    have HN : Hid (CutOut s c.toNat _) := .inr ⟨h2, rfl⟩
    clear h1 h2
    go_enter Tryd.func42, Tryd.ntmps42
    go_wp2_with (first | (go_at_call 70; (with_reducible refine (hi _).mono ?_); rintro r w' ⟨rfl, hw'⟩; obtain rfl := hw'.symm) | go_in)
    go_ret3
    go_wp2
    go_ret3
    exact ⟨HN.out, HB.out⟩
  · rw [h1] at hi
    have HN : Hid (CutOut s c.toNat _) := .inl ⟨n, h2, rfl⟩
    have hn := h2.1
    clear h1 h2
    go_enter Tryd.func42, Tryd.ntmps42
    go_wp2_with (first | (go_at_call 70; (with_reducible refine (hi _).mono ?_); rintro r w' ⟨rfl, hw'⟩; obtain rfl := hw'.symm) | go_in)
    have hw1 : IntKind.i64.wrap ((n : Int) + 1) = (n : Int) + 1 := by rw [IntKind.wrap_i64]; omega
    have hw2 : ((n : Int) + 1).toNat = n + 1 := by omega
    have hw3 : ((n : Int) + 1) ≤ (s.size : Int) := by omega
    go_region
    go_wp2
    go_ret3
    go_wp2
    go_ret3
    exact ⟨HN.out, HB.out.drew⟩
end Go.Proofs.YtndjjhcdnlkekaaDoor.cu
