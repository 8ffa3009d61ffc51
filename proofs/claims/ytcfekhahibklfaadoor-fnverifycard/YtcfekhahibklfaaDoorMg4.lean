/-
  Plain mathematics of chapter 6: two logs that clash. Where the chains of the first records of two logs are the same and the records are not, two texts that are not the same have one mac, and these are told. 'mac' as in LogP. No condition.
  Plain mathematics of the law FnVerify: a log is the same by each anchor of it, a longer one too, a shorter one not. No condition.
-/
import Derived.Test.YtcfekhahibklfaaDoorLogP
namespace Go.Proofs.YtcfekhahibklfaaDoor.lg
open Go.ChangeShapes Go.WideShapes Go.ChangeAt Go.RowKit
open Go.Proofs.YtcfekhahibklfaaDoor.np Go.Proofs.YtcfekhahibklfaaDoor.tp
set_option linter.unusedVariables false

section
variable (mac : ByteArray → ByteArray → ByteArray)
/-- the chain of the records ahead, and the record -/
def textC (key : ByteArray) (l : List ByteArray) (k : Nat) : ByteArray := chain mac key (l.take k) ++ l.getD k ⟨#[]⟩
/-- the last two texts that are not the same though the chains behind them are -/
def clashF (key : ByteArray) (a b : List ByteArray) : Nat → ByteArray × ByteArray × Int
  | 0 => (⟨#[]⟩, ⟨#[]⟩, 6)
  | k + 1 => if textC mac key a k ≠ textC mac key b k ∧ chain mac key (a.take (k + 1)) = chain mac key (b.take (k + 1)) then (textC mac key a k, textC mac key b k, 0) else clashF key a b k
/-- what Clash tells -/
def clashA (key : ByteArray) (n : Int) (a b : List ByteArray) : ByteArray × ByteArray × Int :=
  if 8000 < key.size ∨ 400 < a.length ∨ 400 < b.length then (⟨#[]⟩, ⟨#[]⟩, 2)
  else if ¬ (((∀ r ∈ a, r.size ≤ 200) ∧ (1 ≤ key.size ∧ key.size ≤ 64) ∧ a.length ≤ 60) ∧ ((∀ r ∈ b, r.size ≤ 200) ∧ (1 ≤ key.size ∧ key.size ≤ 64) ∧ b.length ≤ 60) ∧ 0 ≤ n ∧ n ≤ (a.length : Int) ∧ n ≤ (b.length : Int)) then (⟨#[]⟩, ⟨#[]⟩, 1)
  else if a.take n.toNat = b.take n.toNat ∨ chain mac key (a.take n.toNat) ≠ chain mac key (b.take n.toNat) then (⟨#[]⟩, ⟨#[]⟩, 6)
  else clashF mac key a b n.toNat
/-- the arguments are right -/
def ClashR (key : ByteArray) (n : Int) (a b : List ByteArray) : Prop := RecsL key a ∧ RecsL key b ∧ 0 ≤ n ∧ n ≤ (a.length : Int) ∧ n ≤ (b.length : Int)
variable {mac}
theorem clashF_zero {key : ByteArray} {a b : List ByteArray} : clashF mac key a b 0 = (⟨#[]⟩, ⟨#[]⟩, 6) := rfl
theorem clashF_yes {key : ByteArray} {a b : List ByteArray} {k : Nat} (h : textC mac key a k ≠ textC mac key b k) (h2 : chain mac key (a.take (k + 1)) = chain mac key (b.take (k + 1))) : clashF mac key a b (k + 1) = (textC mac key a k, textC mac key b k, 0) := if_pos ⟨h, h2⟩
theorem clashF_no {key : ByteArray} {a b : List ByteArray} {k : Nat} (h : ¬ (textC mac key a k ≠ textC mac key b k ∧ chain mac key (a.take (k + 1)) = chain mac key (b.take (k + 1)))) : clashF mac key a b (k + 1) = clashF mac key a b k := if_neg h
theorem clashA_size {key : ByteArray} {n : Int} {a b : List ByteArray} (h : 8000 < key.size ∨ 400 < a.length ∨ 400 < b.length) : clashA mac key n a b = (⟨#[]⟩, ⟨#[]⟩, 2) := if_pos h
theorem clashA_form {key : ByteArray} {n : Int} {a b : List ByteArray} (h0 : ¬ (8000 < key.size ∨ 400 < a.length ∨ 400 < b.length)) (h : ¬ ClashR key n a b) : clashA mac key n a b = (⟨#[]⟩, ⟨#[]⟩, 1) := by
  unfold clashA
  rw [if_neg h0]
  exact if_pos (fun x => h x)
theorem ClashR.fits {key : ByteArray} {n : Int} {a b : List ByteArray} (h : ClashR key n a b) : ¬ (8000 < key.size ∨ 400 < a.length ∨ 400 < b.length) := by
  have h1 := h.1.2.1.2
  have h2 := h.1.2.2
  have h3 := h.2.1.2.2
  omega
theorem clashA_right {key : ByteArray} {n : Int} {a b : List ByteArray} (h : ClashR key n a b) : clashA mac key n a b = if a.take n.toNat = b.take n.toNat ∨ chain mac key (a.take n.toNat) ≠ chain mac key (b.take n.toNat) then (⟨#[]⟩, ⟨#[]⟩, 6) else clashF mac key a b n.toNat := by
  unfold clashA
  rw [if_neg h.fits]
  exact if_neg (fun x => x h)
theorem getD_at {l : List ByteArray} {k : Nat} (h : k < l.length) : l.getD k ⟨#[]⟩ = l[k] := by
  rw [List.getD_eq_getElem?_getD, List.getElem?_eq_getElem h]; rfl
theorem app_inj {x y u v : ByteArray} (h : x.size = y.size) (e : x ++ u = y ++ v) : x = y ∧ u = v := by
  have e2 : x.data.toList ++ u.data.toList = y.data.toList ++ v.data.toList := by
    have := congrArg (fun z : ByteArray => z.data.toList) e
    simpa using this
  have := List.append_inj e2 (by rw [len_data, len_data, h])
  exact ⟨bytes_inj this.1, bytes_inj this.2⟩
/-- the chain behind a record is the mac of the text -/
theorem chain_textC (hm : ∀ k x : ByteArray, (mac k x).size = 32) {key : ByteArray} {l : List ByteArray} (h : RecsL key l) {k : Nat} (hk : k < l.length) : chain mac key (l.take (k + 1)) = mac key (textC mac key l k) := by
  rw [chain_step hk, chainN_yes h.2.1 (chain_size hm (h.take k)) (h.1 _ (List.getElem_mem hk))]
  unfold textC
  rw [getD_at hk]
/-- what is told: two texts that are not the same, of one mac, or nothing -/
theorem clashF_told (hm : ∀ k x : ByteArray, (mac k x).size = 32) {key : ByteArray} {a b : List ByteArray} (ha : RecsL key a) (hb : RecsL key b) : ∀ k, k ≤ a.length → k ≤ b.length →
    clashF mac key a b k = (⟨#[]⟩, ⟨#[]⟩, 6) ∨ ∃ x y, clashF mac key a b k = (x, y, 0) ∧ x ≠ y ∧ mac key x = mac key y ∧ x.size ≤ 232 ∧ y.size ≤ 232
  | 0, _, _ => .inl rfl
  | k + 1, h1, h2 => by
    by_cases h : textC mac key a k ≠ textC mac key b k ∧ chain mac key (a.take (k + 1)) = chain mac key (b.take (k + 1))
    · rw [clashF_yes h.1 h.2]
      refine .inr ⟨_, _, rfl, h.1, ?_, ?_, ?_⟩
      · rw [← chain_textC hm ha (by omega), ← chain_textC hm hb (by omega), h.2]
      · unfold textC
        rw [ByteArray.size_append, chain_size hm (ha.take k), getD_at (by omega)]
        have := ha.1 _ (List.getElem_mem (show k < a.length by omega))
        omega
      · unfold textC
        rw [ByteArray.size_append, chain_size hm (hb.take k), getD_at (by omega)]
        have := hb.1 _ (List.getElem_mem (show k < b.length by omega))
        omega
    · rw [clashF_no h]
      exact clashF_told hm ha hb k (by omega) (by omega)
/-- chains that are the same are of the same records, or a clash is told -/
theorem clashF_some (hm : ∀ k x : ByteArray, (mac k x).size = 32) {key : ByteArray} {a b : List ByteArray} (ha : RecsL key a) (hb : RecsL key b) : ∀ k, k ≤ a.length → k ≤ b.length → chain mac key (a.take k) = chain mac key (b.take k) →
    a.take k = b.take k ∨ (clashF mac key a b k).2.2 = 0
  | 0, _, _, _ => .inl rfl
  | k + 1, h1, h2, h => by
    by_cases hx : textC mac key a k = textC mac key b k
    · have e := app_inj (by rw [chain_size hm (ha.take k), chain_size hm (hb.take k)]) hx
      rw [clashF_no fun z => z.1 hx]
      rcases clashF_some hm ha hb k (by omega) (by omega) e.1 with h3 | h3
      · left
        have e2 := e.2
        rw [getD_at (by omega), getD_at (by omega)] at e2
        rw [take_snoc (show k < a.length by omega), take_snoc (show k < b.length by omega), h3, e2]
      · exact .inr h3
    · rw [clashF_yes hx h]; exact .inr rfl
/-- Clash: the first records are the same, or their chains are not, or a clash is told -/
theorem clashA_law (hm : ∀ k x : ByteArray, (mac k x).size = 32) {key : ByteArray} {n : Int} {a b : List ByteArray} (h : ClashR key n a b) (hc : chain mac key (a.take n.toNat) = chain mac key (b.take n.toNat)) : a.take n.toNat = b.take n.toNat ∨ (clashA mac key n a b).2.2 = 0 := by
  have h0 := h.2.2
  rcases clashF_some hm h.1 h.2.1 n.toNat (by omega) (by omega) hc with h1 | h1
  · exact .inl h1
  · by_cases h2 : a.take n.toNat = b.take n.toNat
    · exact .inl h2
    · right
      rw [clashA_right h, if_neg (by intro x; rcases x with x | x; exact h2 x; exact x hc)]
      exact h1
/-- what Clash tells is one of these -/
theorem clashA_told (hm : ∀ k x : ByteArray, (mac k x).size = 32) {key : ByteArray} {n : Int} {a b : List ByteArray} :
    clashA mac key n a b = (⟨#[]⟩, ⟨#[]⟩, 2) ∨ clashA mac key n a b = (⟨#[]⟩, ⟨#[]⟩, 1) ∨ (ClashR key n a b ∧ (clashA mac key n a b = (⟨#[]⟩, ⟨#[]⟩, 6) ∨ ∃ x y, clashA mac key n a b = (x, y, 0) ∧ x ≠ y ∧ mac key x = mac key y ∧ x.size ≤ 232 ∧ y.size ≤ 232)) := by
  by_cases h0 : 8000 < key.size ∨ 400 < a.length ∨ 400 < b.length
  · exact .inl (clashA_size h0)
  · by_cases h : ClashR key n a b
    · refine .inr (.inr ⟨h, ?_⟩)
      rw [clashA_right h]
      have h1 := h.2.2
      split
      · exact .inl rfl
      · exact clashF_told hm h.1 h.2.1 n.toNat (by omega) (by omega)
    · exact .inr (.inl (clashA_form h0 h))
end
end Go.Proofs.YtcfekhahibklfaaDoor.lg

namespace Go.Proofs.YtcfekhahibklfaaDoor.lg
variable {mac : ByteArray → ByteArray → ByteArray}

theorem ver_same (hm : ∀ k x : ByteArray, (mac k x).size = 32) {key : ByteArray} {l : List ByteArray} (h : RecsL key l) (hz : (logB mac key l).size ≤ 8000) {n : Nat} (hn : n ≤ l.length) :
    VerL mac key (n : Int) (chain mac key (l.take n)) (logT mac key l) := by
  have h60 := h.2.2
  rw [logT_yes h hz]
  refine ⟨⟨h.2.1, hz⟩, ⟨by omega, by omega⟩, ?_, ?_⟩ <;> rw [read_back hm h hz]
  · show (n : Int) ≤ (l.length : Int)
    omega
  · rfl
theorem ver_more (hm : ∀ k x : ByteArray, (mac k x).size = 32) {key : ByteArray} {l m : List ByteArray} (h : RecsL key (l ++ m)) (hz : (logB mac key (l ++ m)).size ≤ 8000) {n : Nat} (hn : n ≤ l.length) :
    VerL mac key (n : Int) (chain mac key (l.take n)) (logT mac key (l ++ m)) := by
  have e : (l ++ m).take n = l.take n := List.take_append_of_le_length hn
  have := ver_same hm h hz (n := n) (by rw [List.length_append]; omega)
  rwa [e] at this
theorem logT_full {key : ByteArray} {l : List ByteArray} (h : logT mac key l ≠ ⟨#[]⟩) : RecsL key l ∧ (logB mac key l).size ≤ 8000 := by
  unfold logT at h
  split at h
  · rename_i h2; exact h2
  · exact absurd rfl h
theorem ver_less (hm : ∀ k x : ByteArray, (mac k x).size = 32) {key c : ByteArray} {l : List ByteArray} (hk : KeyL key) {n : Nat} (hn : l.length < n) : ¬ VerL mac key (n : Int) c (logT mac key l) := by
  rintro ⟨_, _, h, _⟩
  by_cases h0 : logT mac key l = ⟨#[]⟩
  · have hb : RecsL key [] := ⟨by simp, hk, by simp⟩
    have hr := read_back hm hb (by rw [logB_nil]; exact Nat.zero_le _)
    rw [logB_nil] at hr
    rw [h0, hr] at h
    simp at h
    omega
  · have hf := logT_full h0
    rw [logT_yes hf.1 hf.2, read_back hm hf.1 hf.2] at h
    have h2 : (n : Int) ≤ (l.length : Int) := h
    omega
end Go.Proofs.YtcfekhahibklfaaDoor.lg
