/-
  Plain mathematics of the stream that hides: a quarter of sixteen numbers, ten times eight of them, a block's bytes, and what they make of a text.
-/
import Derived.Test.YtneahcoakbbdaaaDoorShaPlain
namespace Go.Proofs.YtneahcoakbbdaaaDoor.cc
open Go.ChangeShapes Go.WideShapes Go.ChangeAt Go.RowKit
open Go.Proofs.YtneahcoakbbdaaaDoor.sh (U wr xor bits_U wr_U byteAt)
set_option linter.unusedVariables false

/-- turned left by k -/
def rotl (k : Nat) (x : Int) : Int := bits .or .u32 (wr (x * 2 ^ k)) (x / 2 ^ (32 - k))
theorem rotl_U (k : Nat) (x : Int) : U (rotl k x) := bits_U _ _ _
def addTo (l : List Int) (a b : Nat) : List Int := l.set a (wr (l.getD a 0 + l.getD b 0))
def xorTo (k : Nat) (l : List Int) (d a : Nat) : List Int := l.set d (rotl k (xor (l.getD d 0) (l.getD a 0)))
/-- a quarter of the numbers at four places -/
def quarter (l : List Int) (a b c d : Nat) : List Int :=
  xorTo 7 (addTo (xorTo 8 (addTo (xorTo 12 (addTo (xorTo 16 (addTo l a b) d a) c d) b c) a b) d a) c d) b c
theorem addTo_length (l : List Int) (a b : Nat) : (addTo l a b).length = l.length := by simp [addTo]
theorem xorTo_length (k : Nat) (l : List Int) (a b : Nat) : (xorTo k l a b).length = l.length := by simp [xorTo]
theorem quarter_length (l : List Int) (a b c d : Nat) : (quarter l a b c d).length = l.length := by simp [quarter, addTo_length, xorTo_length]
def AllU (l : List Int) : Prop := ∀ x ∈ l, U x
theorem AllU.set {l : List Int} (h : AllU l) (i : Nat) {x : Int} (hx : U x) : AllU (l.set i x) := fun y hy => by
  rcases List.mem_or_eq_of_mem_set hy with h1 | h1
  · exact h y h1
  · subst h1; exact hx
theorem quarter_U {l : List Int} (h : AllU l) (a b c d : Nat) : AllU (quarter l a b c d) :=
  (((((((h.set a (wr_U _)).set d (rotl_U _ _)).set c (wr_U _)).set b (rotl_U _ _)).set a (wr_U _)).set d (rotl_U _ _)).set c (wr_U _)).set b (rotl_U _ _)
theorem getD_U {l : List Int} (h : AllU l) (i : Nat) : U (l.getD i 0) := by
  rw [List.getD_eq_getElem?_getD]
  cases e : l[i]? with
  | none => exact ⟨by decide, by decide⟩
  | some x => exact h x (List.mem_of_getElem? e)
/-- eight quarters -/
def twice (l : List Int) : List Int :=
  quarter (quarter (quarter (quarter (quarter (quarter (quarter (quarter l 0 4 8 12) 1 5 9 13) 2 6 10 14) 3 7 11 15) 0 5 10 15) 1 6 11 12) 2 7 8 13) 3 4 9 14
theorem twice_length (l : List Int) : (twice l).length = l.length := by simp [twice, quarter_length]
theorem twice_U {l : List Int} (h : AllU l) : AllU (twice l) := quarter_U (quarter_U (quarter_U (quarter_U (quarter_U (quarter_U (quarter_U (quarter_U h _ _ _ _) _ _ _ _) _ _ _ _) _ _ _ _) _ _ _ _) _ _ _ _) _ _ _ _) _ _ _ _
def turns : Nat → List Int → List Int
  | 0, l => l
  | n + 1, l => twice (turns n l)
theorem turns_length (n : Nat) (l : List Int) : (turns n l).length = l.length := by
  induction n with
  | zero => rfl
  | succ n ih => rw [turns, twice_length, ih]
theorem turns_U (n : Nat) {l : List Int} (h : AllU l) : AllU (turns n l) := by
  induction n with
  | zero => exact h
  | succ n ih => exact twice_U ih
/-- four bytes as one number, the lowest first -/
def lowWord (b0 b1 b2 b3 : Int) : Int := bits .or .u32 (bits .or .u32 (bits .or .u32 b0 (wr (b1 * 2 ^ 8))) (wr (b2 * 2 ^ 16))) (wr (b3 * 2 ^ 24))
def lowAt (b : List UInt8) (i : Nat) : Int := lowWord (byteAt b (4 * i)) (byteAt b (4 * i + 1)) (byteAt b (4 * i + 2)) (byteAt b (4 * i + 3))
theorem lowAt_U (b : List UInt8) (i : Nat) : U (lowAt b i) := by unfold lowAt lowWord; exact bits_U _ _ _
def lows (b : List UInt8) (n : Nat) : List Int := (List.range n).map (lowAt b)
def expand : List UInt8 := [101, 120, 112, 97, 110, 100, 32, 51, 50, 45, 98, 121, 116, 101, 32, 107]
/-- the sixteen numbers at first -/
def first (key : List UInt8) (counter : Int) (nonce : List UInt8) : List Int := lows (expand ++ key) 12 ++ [counter] ++ lows nonce 3
theorem first_length (key : List UInt8) (counter : Int) (nonce : List UInt8) : (first key counter nonce).length = 16 := by simp [first, lows]
def lowBytes (x : Int) : List Int := [x % 256, x / 256 % 256, x / 65536 % 256, x / 16777216 % 256]
/-- the 64 numbers of a block, each a byte -/
def blockN (key : List UInt8) (counter : Int) (nonce : List UInt8) (k : Nat) : List Int :=
  ((List.range k).map fun i => wr ((turns 10 (first key counter nonce)).getD i 0 + (first key counter nonce).getD i 0)).flatMap lowBytes
end Go.Proofs.YtneahcoakbbdaaaDoor.cc
