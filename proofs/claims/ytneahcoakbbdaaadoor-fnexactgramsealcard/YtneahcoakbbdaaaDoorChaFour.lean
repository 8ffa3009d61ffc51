/-
  Plain mathematics of four numbers that are mixed: a quarter of a list at four places is the list with the four mixed numbers there.
-/
import Derived.Test.YtneahcoakbbdaaaDoorChaPlain
namespace Go.Proofs.YtneahcoakbbdaaaDoor.cc
open Go.ChangeShapes Go.WideShapes Go.ChangeAt Go.RowKit
open Go.Proofs.YtneahcoakbbdaaaDoor.sh (U wr xor bits_U wr_U byteAt)
set_option linter.unusedVariables false

def m1a (a b : Int) : Int := wr (a + b)
def m1d (a b d : Int) : Int := rotl 16 (xor d (m1a a b))
def m1c (a b c d : Int) : Int := wr (c + m1d a b d)
def m1b (a b c d : Int) : Int := rotl 12 (xor b (m1c a b c d))
/-- the four numbers behind a quarter -/
def m2a (a b c d : Int) : Int := wr (m1a a b + m1b a b c d)
def m2d (a b c d : Int) : Int := rotl 8 (xor (m1d a b d) (m2a a b c d))
def m2c (a b c d : Int) : Int := wr (m1c a b c d + m2d a b c d)
def m2b (a b c d : Int) : Int := rotl 7 (xor (m1b a b c d) (m2c a b c d))
theorem getD_set4 (l : List Int) (i j : Nat) (x : Int) (hj : j < l.length) : (l.set i x).getD j 0 = if i = j then x else l.getD j 0 := by
  rw [List.getD_eq_getElem?_getD, List.getElem?_set, List.getD_eq_getElem?_getD]
  by_cases h : i = j
  · subst h; simp [hj]
  · simp [h]
theorem quarter_sets (l : List Int) (a b c d : Nat) (ha : a < l.length) (hb : b < l.length) (hc : c < l.length) (hd : d < l.length) (hab : a ≠ b) (hac : a ≠ c) (had : a ≠ d) (hbc : b ≠ c) (hbd : b ≠ d) (hcd : c ≠ d) :
    quarter l a b c d = (((l.set a (m2a (l.getD a 0) (l.getD b 0) (l.getD c 0) (l.getD d 0))).set b (m2b (l.getD a 0) (l.getD b 0) (l.getD c 0) (l.getD d 0))).set c (m2c (l.getD a 0) (l.getD b 0) (l.getD c 0) (l.getD d 0))).set d (m2d (l.getD a 0) (l.getD b 0) (l.getD c 0) (l.getD d 0)) := by
  have e1 : addTo l a b = l.set a (m1a (l.getD a 0) (l.getD b 0)) := rfl
  have e2 : ∀ x, xorTo 16 (l.set a x) d a = (l.set a x).set d (rotl 16 (xor (l.getD d 0) x)) := fun x => by
    unfold xorTo
    rw [getD_set4 l a d x hd, getD_set4 l a a x ha, if_pos rfl, if_neg had]
  have e3 : ∀ x y, addTo ((l.set a x).set d y) c d = ((l.set a x).set d y).set c (wr (l.getD c 0 + y)) := fun x y => by
    unfold addTo
    rw [getD_set4 _ d c y (by simpa using hc), getD_set4 l a c x hc, getD_set4 _ d d y (by simpa using hd), if_pos rfl, if_neg hac, if_neg (Ne.symm hcd)]
  have e4 : ∀ x y z, xorTo 12 (((l.set a x).set d y).set c z) b c = (((l.set a x).set d y).set c z).set b (rotl 12 (xor (l.getD b 0) z)) := fun x y z => by
    unfold xorTo
    rw [getD_set4 _ c b z (by simpa using hb), getD_set4 _ d b y (by simpa using hb), getD_set4 l a b x hb, getD_set4 _ c c z (by simpa using hc), if_pos rfl, if_neg hab, if_neg (Ne.symm hbd), if_neg (Ne.symm hbc)]
  have e5 : ∀ x y z v, addTo ((((l.set a x).set d y).set c z).set b v) a b = ((((l.set a x).set d y).set c z).set b v).set a (wr (x + v)) := fun x y z v => by
    unfold addTo
    rw [getD_set4 _ b a v (by simpa using ha), getD_set4 _ c a z (by simpa using ha), getD_set4 _ d a y (by simpa using ha), getD_set4 l a a x ha, getD_set4 _ b b v (by simpa using hb), if_pos rfl, if_pos rfl, if_neg (Ne.symm hab), if_neg (Ne.symm hac), if_neg (Ne.symm had)]
  have s4 : ∀ x y z v x', ((((l.set a x).set d y).set c z).set b v).set a x' = (((l.set a x').set d y).set c z).set b v := fun x y z v x' => by
    rw [List.set_comm v x' (Ne.symm hab), List.set_comm z x' (Ne.symm hac), List.set_comm y x' (Ne.symm had), List.set_set]
  have s3 : ∀ x y z v y', ((((l.set a x).set d y).set c z).set b v).set d y' = (((l.set a x).set d y').set c z).set b v := fun x y z v y' => by
    rw [List.set_comm v y' hbd, List.set_comm z y' hcd, List.set_set]
  have s2 : ∀ x y z v z', ((((l.set a x).set d y).set c z).set b v).set c z' = (((l.set a x).set d y).set c z').set b v := fun x y z v z' => by
    rw [List.set_comm v z' hbc, List.set_set]
  have e6 : ∀ x y z v, xorTo 8 ((((l.set a x).set d y).set c z).set b v) d a = ((((l.set a x).set d y).set c z).set b v).set d (rotl 8 (xor y x)) := fun x y z v => by
    unfold xorTo
    rw [getD_set4 _ b a v (by simpa using ha), getD_set4 _ c a z (by simpa using ha), getD_set4 _ d a y (by simpa using ha), getD_set4 l a a x ha, if_pos rfl, if_neg (Ne.symm hab), if_neg (Ne.symm hac), if_neg (Ne.symm had),
      getD_set4 _ b d v (by simpa using hd), getD_set4 _ c d z (by simpa using hd), getD_set4 _ d d y (by simpa using hd), if_pos rfl, if_neg hbd, if_neg hcd]
  have e7 : ∀ x y z v, addTo ((((l.set a x).set d y).set c z).set b v) c d = ((((l.set a x).set d y).set c z).set b v).set c (wr (z + y)) := fun x y z v => by
    unfold addTo
    rw [getD_set4 _ b c v (by simpa using hc), getD_set4 _ c c z (by simpa using hc), if_pos rfl, if_neg hbc, getD_set4 _ b d v (by simpa using hd), getD_set4 _ c d z (by simpa using hd), getD_set4 _ d d y (by simpa using hd), if_pos rfl, if_neg hbd, if_neg hcd]
  have e8 : ∀ x y z v, xorTo 7 ((((l.set a x).set d y).set c z).set b v) b c = ((((l.set a x).set d y).set c z).set b v).set b (rotl 7 (xor v z)) := fun x y z v => by
    unfold xorTo
    rw [getD_set4 _ b b v (by simpa using hb), if_pos rfl, getD_set4 _ b c v (by simpa using hc), getD_set4 _ c c z (by simpa using hc), if_pos rfl, if_neg hbc]
  unfold quarter
  rw [e1, e2, e3, e4, e5, s4, e6, s3, e7, s2, e8, List.set_set]
  generalize m2a_ : m2a (l.getD a 0) (l.getD b 0) (l.getD c 0) (l.getD d 0) = ra
  show (((l.set a (m2a (l.getD a 0) (l.getD b 0) (l.getD c 0) (l.getD d 0))).set d (m2d (l.getD a 0) (l.getD b 0) (l.getD c 0) (l.getD d 0))).set c (m2c (l.getD a 0) (l.getD b 0) (l.getD c 0) (l.getD d 0))).set b (m2b (l.getD a 0) (l.getD b 0) (l.getD c 0) (l.getD d 0)) = _
  rw [m2a_]
  generalize m2b (l.getD a 0) (l.getD b 0) (l.getD c 0) (l.getD d 0) = rb
  generalize m2c (l.getD a 0) (l.getD b 0) (l.getD c 0) (l.getD d 0) = rc
  generalize m2d (l.getD a 0) (l.getD b 0) (l.getD c 0) (l.getD d 0) = rd
  rw [List.set_comm rc rb (Ne.symm hbc), List.set_comm rd rb (Ne.symm hbd), List.set_comm rd rc (Ne.symm hcd)]
end Go.Proofs.YtneahcoakbbdaaaDoor.cc
