/-
  Opening a gram's bytes, plainly: which gram a number tells, and what GramOpen answers. No condition.
  Grams and their numbers: what is sealed is opened again, and a number tells its gram. No condition.
-/
import Derived.Test.YtgchjinbnlclnaaGreatDoorMg12
namespace Go.Proofs.YtgchjinbnlclnaaGreatDoor.gm
open Go.ChangeShapes Go.WideShapes Go.ChangeAt Go.RowKit
open Go.Proofs.YtgchjinbnlclnaaGreatDoor.wi (RightG)
open Go.Proofs.YtgchjinbnlclnaaGreatDoor.np (getV numV)
open Classical
set_option linter.unusedVariables false

/-- the gram of a number: side, epoch, count -/
def gS (n : Int) : Int := (n.tdiv 2001).tdiv 201
def gE (n : Int) : Int := (n.tdiv 2001).tmod 201
def gC (n : Int) : Int := n.tmod 2001
theorem gS_pos {n : Int} (h : 0 ≤ n) : gS n = n / 2001 / 201 := by
  unfold gS
  rw [Int.tdiv_eq_ediv_of_nonneg h, Int.tdiv_eq_ediv_of_nonneg (by omega)]
theorem gE_pos {n : Int} (h : 0 ≤ n) : gE n = n / 2001 % 201 := by
  unfold gE
  rw [Int.tdiv_eq_ediv_of_nonneg h, Int.tmod_eq_emod_of_nonneg (by omega)]
theorem gC_pos {n : Int} (h : 0 ≤ n) : gC n = n % 2001 := by
  unfold gC
  rw [Int.tmod_eq_emod_of_nonneg h]
theorem gS_neg {n : Int} (h : 0 ≤ n) : gS (-n) = -(n / 2001 / 201) := by
  have := gS_pos h
  unfold gS at this ⊢
  rw [Int.neg_tdiv, Int.neg_tdiv, this]
theorem gE_neg {n : Int} (h : 0 ≤ n) : gE (-n) = -(n / 2001 % 201) := by
  have := gE_pos h
  unfold gE at this ⊢
  rw [Int.neg_tdiv, Int.neg_tmod, this]
theorem gC_neg {n : Int} (h : 0 ≤ n) : gC (-n) = -(n % 2001) := by
  have := gC_pos h
  unfold gC at this ⊢
  rw [Int.neg_tmod, this]
/-- a number's gram is right just within the range -/
theorem right_of_num {n : Int} {b : Nat} : RightG (gS n) (gE n) (gC n) b ↔ (0 ≤ n ∧ n ≤ 804401) ∧ b ≤ 800 := by
  unfold RightG
  by_cases h : 0 ≤ n
  · rw [gS_pos h, gE_pos h, gC_pos h]
    omega
  · obtain ⟨m, rfl⟩ : ∃ m : Int, n = -m := ⟨-n, by omega⟩
    rw [gS_neg (by omega), gE_neg (by omega), gC_neg (by omega)]
    omega
theorem g_range {n : Int} (h : pn.i64P n) : (-9223372036854775808 ≤ gS n ∧ gS n ≤ 9223372036854775807) ∧ (-9223372036854775808 ≤ n.tdiv 2001 ∧ n.tdiv 2001 ≤ 9223372036854775807) := by
  unfold pn.i64P at h
  by_cases h0 : 0 ≤ n
  · rw [gS_pos h0, Int.tdiv_eq_ediv_of_nonneg h0]
    omega
  · obtain ⟨m, rfl⟩ : ∃ m : Int, n = -m := ⟨-n, by omega⟩
    rw [gS_neg (by omega), Int.neg_tdiv, Int.tdiv_eq_ediv_of_nonneg (by omega)]
    omega

/-- what GramOpen tells: a gram, and a code -/
def noG (c : Int) : (Int × Int × Int × ByteArray) × Int := ((0, 0, 0, ⟨#[]⟩), c)
/-- the box behind the number -/
def boxG (text : ByteArray) : ByteArray := text.extract (getV text 0).2.1.toNat text.size
def openG (key text : ByteArray) : (Int × Int × Int × ByteArray) × Int :=
  if 8000 < key.size ∨ 8000 < text.size then noG 2
  else if ¬ (1 ≤ key.size ∧ key.size ≤ 64) then noG 1
  else if ¬ ((getV text 0).2.2 = 0 ∧ 0 ≤ (getV text 0).1 ∧ (getV text 0).1 ≤ 804401) then noG 3
  else if (cc.openA key (getV text 0).1 (boxG text)).2 ≠ 0 then noG (cc.openA key (getV text 0).1 (boxG text)).2
  else if 800 < (cc.openA key (getV text 0).1 (boxG text)).1.size then noG 1
  else ((gS (getV text 0).1, gE (getV text 0).1, gC (getV text 0).1, (cc.openA key (getV text 0).1 (boxG text)).1), 0)
theorem openG_size {key text : ByteArray} (h : 8000 < key.size ∨ 8000 < text.size) : openG key text = noG 2 := if_pos h
theorem openG_key {key text : ByteArray} (h : ¬ (8000 < key.size ∨ 8000 < text.size)) (h1 : ¬ KeyR key) : openG key text = noG 1 := by
  unfold openG; rw [if_neg h, if_pos (show ¬ (1 ≤ key.size ∧ key.size ≤ 64) from h1)]
theorem openG_num {key text : ByteArray} (h : ¬ (8000 < key.size ∨ 8000 < text.size)) (h1 : KeyR key) {n a c : Int} (hg : getV text 0 = (n, a, c)) (h2 : ¬ (c = 0 ∧ 0 ≤ n ∧ n ≤ 804401)) : openG key text = noG 3 := by
  unfold openG; rw [if_neg h, if_neg (not_not_intro (show 1 ≤ key.size ∧ key.size ≤ 64 from h1)), hg, if_pos h2]
theorem openG_box {key text : ByteArray} (h : ¬ (8000 < key.size ∨ 8000 < text.size)) (h1 : KeyR key) {n a : Int} (hg : getV text 0 = (n, a, 0)) (h2 : 0 ≤ n ∧ n ≤ 804401) {T : ByteArray} {c : Int} (ho : cc.openA key n (text.extract a.toNat text.size) = (T, c)) (hc : c ≠ 0) : openG key text = noG c := by
  unfold openG boxG; rw [if_neg h, if_neg (not_not_intro (show 1 ≤ key.size ∧ key.size ≤ 64 from h1)), hg, if_neg (by simp; omega)]; simp only [ho]; rw [if_pos hc]
theorem openG_long {key text : ByteArray} (h : ¬ (8000 < key.size ∨ 8000 < text.size)) (h1 : KeyR key) {n a : Int} (hg : getV text 0 = (n, a, 0)) (h2 : 0 ≤ n ∧ n ≤ 804401) {T : ByteArray} (ho : cc.openA key n (text.extract a.toNat text.size) = (T, 0)) (hc : 800 < T.size) : openG key text = noG 1 := by
  unfold openG boxG; rw [if_neg h, if_neg (not_not_intro (show 1 ≤ key.size ∧ key.size ≤ 64 from h1)), hg, if_neg (by simp; omega)]; simp only [ho]; rw [if_neg (by simp), if_pos hc]
theorem openG_ok {key text : ByteArray} (h : ¬ (8000 < key.size ∨ 8000 < text.size)) (h1 : KeyR key) {n a : Int} (hg : getV text 0 = (n, a, 0)) (h2 : 0 ≤ n ∧ n ≤ 804401) {T : ByteArray} (ho : cc.openA key n (text.extract a.toNat text.size) = (T, 0)) (hc : ¬ 800 < T.size) : openG key text = ((gS n, gE n, gC n, T), 0) := by
  unfold openG boxG; rw [if_neg h, if_neg (not_not_intro (show 1 ≤ key.size ∧ key.size ≤ 64 from h1)), hg, if_neg (by simp; omega)]; simp only [ho]; rw [if_neg (by simp), if_neg hc]
/-- a code of openA is no less than 0 -/
theorem openA_code {key : ByteArray} {n : Int} {b : ByteArray} {T : ByteArray} {c : Int} (h : cc.openA key n b = (T, c)) : c ≠ 0 → 1 ≤ c := by
  unfold cc.openA at h
  intro hc
  split at h <;> (try split at h) <;> (try split at h) <;> (try split at h) <;> (cases h; first | omega | decide)
end Go.Proofs.YtgchjinbnlclnaaGreatDoor.gm

namespace Go.Proofs.YtgchjinbnlclnaaGreatDoor.gm
open Go.ChangeShapes Go.WideShapes Go.ChangeAt Go.RowKit
open Go.Proofs.YtgchjinbnlclnaaGreatDoor.wi (RightG)
open Go.Proofs.YtgchjinbnlclnaaGreatDoor.np (getV numV)
open Classical
set_option linter.unusedVariables false

theorem num_of {s e c : Int} {b : Nat} (h : RightG s e c b) : gS (numG s e c) = s ∧ gE (numG s e c) = e ∧ gC (numG s e c) = c := by
  have hr := (numG_range h).1
  unfold RightG at h
  rw [gS_pos hr, gE_pos hr, gC_pos hr]
  unfold numG
  omega
theorem num_inj {s e c s' e' c' : Int} {b b' : Nat} (h : RightG s e c b) (h' : RightG s' e' c' b') (hn : numG s e c = numG s' e' c') : s = s' ∧ e = e' ∧ c = c' := by
  unfold RightG at h h'
  unfold numG at hn
  omega
theorem app_list (x y : ByteArray) : (x ++ y).data.toList = x.data.toList ++ y.data.toList := by
  rw [ByteArray.data_append, Array.toList_append]
/-- the number at the head of a gram's bytes -/
theorem seal_num {key : ByteArray} {s e c : Int} {b : ByteArray} (h : KeyR key ∧ RightG s e c b.size) : getV (sealG key s e c b) 0 = (numG s e c, ((pn.numB (numG s e c)).size : Int), 0) := by
  have hb := nk.num_back (s := sealG key s e c b) (x := ⟨#[]⟩) (y := cc.sealA key (numG s e c) b) (i64_num h.2) (by rw [sealG_yes h, app_list]; rfl)
  have e0 : ((⟨#[]⟩ : ByteArray).size : Int) = 0 := rfl
  rw [e0] at hb
  rw [hb]
  have e1 : (⟨#[]⟩ : ByteArray).size = 0 := rfl
  rw [e1, Nat.zero_add]
theorem sealA_some {key : ByteArray} {s e c : Int} {b : ByteArray} (h : KeyR key ∧ RightG s e c b.size) : cc.sealA key (numG s e c) b ≠ ⟨#[]⟩ := by
  have hr := numG_range h.2
  have hk := h.1
  have hb := h.2.2.2.2
  unfold KeyR at hk
  have hh : (1 ≤ key.size ∧ key.size ≤ 64 ∧ 0 ≤ numG s e c ∧ numG s e c ≤ 1000000) ∧ b.size ≤ 1000 := by omega
  intro he
  have hz := congrArg ByteArray.size he
  rw [cc.sealA_yes hh, cc.boxB_size] at hz
  have : (⟨#[]⟩ : ByteArray).size = 0 := rfl
  omega
theorem sealG_some {key : ByteArray} {s e c : Int} {b : ByteArray} (h : KeyR key ∧ RightG s e c b.size) : sealG key s e c b ≠ ⟨#[]⟩ := by
  intro he
  have hz := congrArg ByteArray.size he
  rw [sealG_yes h, ByteArray.size_append] at hz
  have h1 := nk.numB_pos (numG s e c)
  have : (⟨#[]⟩ : ByteArray).size = 0 := rfl
  omega
theorem sealG_right {key : ByteArray} {s e c : Int} {b : ByteArray} (h : sealG key s e c b ≠ ⟨#[]⟩) : KeyR key ∧ RightG s e c b.size := by
  by_cases hh : KeyR key ∧ RightG s e c b.size
  · exact hh
  · exact absurd (sealG_no hh) h
/-- what is sealed is opened again -/
theorem open_sealG {key : ByteArray} {s e c : Int} {b : ByteArray} (h : KeyR key ∧ RightG s e c b.size) : openG key (sealG key s e c b) = ((s, e, c, b), 0) := by
  have hg := seal_num h
  have hs := cc.open_seal key (numG s e c) b (sealA_some h)
  have hn := num_of h.2
  have hr := numG_range h.2
  have hb := h.2.2.2.2
  have hz := numB_size_le (i64_num h.2)
  have hk := h.1
  unfold KeyR at hk
  have hsz : (sealG key s e c b).size ≤ 8000 := by
    rw [sealG_yes h, ByteArray.size_append, hs.2]; omega
  have ho : cc.openA key (numG s e c) ((sealG key s e c b).extract ((pn.numB (numG s e c)).size : Int).toNat (sealG key s e c b).size) = (b, 0) := by
    rw [Int.toNat_natCast, sealG_yes h, cc.extract_right]
    exact hs.1
  rw [openG_ok (by omega) h.1 hg hr ho (by omega), hn.1, hn.2.1, hn.2.2]
end Go.Proofs.YtgchjinbnlclnaaGreatDoor.gm
