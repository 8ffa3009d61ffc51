/-
  Plain mathematics of chapter 6: the chain of records, a log's text, what is read of a text, and that a log's records come back. 'mac' stands for any function that makes 32 bytes of a key and a text. No condition.
-/
import Derived.Test.YtcfekhahibklfaaDoorMg3
namespace Go.Proofs.YtcfekhahibklfaaDoor.lg
open Go.ChangeShapes Go.WideShapes Go.ChangeAt Go.RowKit
open Go.Proofs.YtcfekhahibklfaaDoor.np Go.Proofs.YtcfekhahibklfaaDoor.tp
set_option linter.unusedVariables false

def KeyL (key : ByteArray) : Prop := 1 ≤ key.size ∧ key.size ≤ 64
/-- records that may be a log -/
def RecsL (key : ByteArray) (l : List ByteArray) : Prop := (∀ r ∈ l, r.size ≤ 200) ∧ KeyL key ∧ l.length ≤ 60
def logW : ByteArray := ⟨#[108, 111, 103]⟩
theorem logW_size : logW.size = 3 := rfl
section
variable (mac : ByteArray → ByteArray → ByteArray)
def chainS (key : ByteArray) : ByteArray := if 1 ≤ key.size ∧ key.size ≤ 64 then mac key logW else ⟨#[]⟩
def chainN (key c r : ByteArray) : ByteArray := if (1 ≤ key.size ∧ key.size ≤ 64) ∧ c.size = 32 ∧ r.size ≤ 200 then mac key (c ++ r) else ⟨#[]⟩
/-- the chain of records that follow a chain -/
def chainF (key : ByteArray) : ByteArray → List ByteArray → ByteArray
  | c, [] => c
  | c, r :: l => chainF key (chainN mac key c r) l
def chain (key : ByteArray) (l : List ByteArray) : ByteArray := chainF mac key (chainS mac key) l
/-- the bytes of a record: its text, and the first bytes of its chain -/
def recB (c r : ByteArray) : ByteArray := pn.numB (r.size : Int) ++ r ++ c.extract 0 8
/-- the bytes of records that follow a chain -/
def logF (key : ByteArray) : ByteArray → List ByteArray → ByteArray
  | _, [] => ⟨#[]⟩
  | c, r :: l => recB (chainN mac key c r) r ++ logF key (chainN mac key c r) l
def logB (key : ByteArray) (l : List ByteArray) : ByteArray := logF mac key (chainS mac key) l
def logT (key : ByteArray) (l : List ByteArray) : ByteArray := if ((∀ r ∈ l, r.size ≤ 200) ∧ (1 ≤ key.size ∧ key.size ≤ 64) ∧ l.length ≤ 60) ∧ (logB mac key l).size ≤ 8000 then logB mac key l else ⟨#[]⟩
/-- the next record of a text: does one stand there? -/
def NextL (key text : ByteArray) (c : ByteArray) (i : Int) : Prop :=
  (textV text i).2.2 = 0 ∧ (textV text i).1.size ≤ 200 ∧ (textV text i).2.1 + 8 ≤ (text.size : Int) ∧ text.extract (textV text i).2.1.toNat ((textV text i).2.1 + 8).toNat = (chainN mac key c (textV text i).1).extract 0 8
/-- the records that stand in a text, so many at most, and the place behind them -/
def readF (key text : ByteArray) : Nat → ByteArray → Int → List ByteArray × Int
  | 0, _, i => ([], i)
  | n + 1, c, i => if (textV text i).2.2 = 0 ∧ (textV text i).1.size ≤ 200 ∧ (textV text i).2.1 + 8 ≤ (text.size : Int) ∧ text.extract (textV text i).2.1.toNat ((textV text i).2.1 + 8).toNat = (chainN mac key c (textV text i).1).extract 0 8 then ((textV text i).1 :: (readF key text n (chainN mac key c (textV text i).1) ((textV text i).2.1 + 8)).1, (readF key text n (chainN mac key c (textV text i).1) ((textV text i).2.1 + 8)).2) else ([], i)
def readL (key text : ByteArray) : List ByteArray × Int := readF mac key text 60 (chainS mac key) 0
/-- what LogRead tells -/
def logR (key text : ByteArray) : List ByteArray × Int × Int :=
  if 8000 < key.size ∨ 8000 < text.size then ([], 0, 2) else if ¬ (1 ≤ key.size ∧ key.size ≤ 64) then ([], 0, 1) else ((readL mac key text).1, (readL mac key text).2, 0)
def anchorA (key : ByteArray) (l : List ByteArray) (n : Int) : Int × ByteArray := if ((∀ r ∈ l, r.size ≤ 200) ∧ (1 ≤ key.size ∧ key.size ≤ 64) ∧ l.length ≤ 60) ∧ 0 ≤ n ∧ n ≤ (l.length : Int) then (n, chain mac key (l.take n.toNat)) else (0, ⟨#[]⟩)
def VerL (key : ByteArray) (n : Int) (c text : ByteArray) : Prop := (KeyL key ∧ text.size ≤ 8000) ∧ (0 ≤ n ∧ n ≤ 60) ∧ n ≤ ((readL mac key text).1.length : Int) ∧ chain mac key ((readL mac key text).1.take n.toNat) = c

variable {mac}
theorem chainS_yes {key : ByteArray} (h : KeyL key) : chainS mac key = mac key logW := if_pos h
theorem chainS_no {key : ByteArray} (h : ¬ KeyL key) : chainS mac key = ⟨#[]⟩ := if_neg h
theorem chainN_yes {key c r : ByteArray} (h : KeyL key) (hc : c.size = 32) (hr : r.size ≤ 200) : chainN mac key c r = mac key (c ++ r) := if_pos ⟨h, hc, hr⟩
theorem chainN_no {key c r : ByteArray} (h : ¬ (KeyL key ∧ c.size = 32 ∧ r.size ≤ 200)) : chainN mac key c r = ⟨#[]⟩ := if_neg h
theorem chainF_nil {key c : ByteArray} : chainF mac key c [] = c := rfl
theorem chainF_cons {key c r : ByteArray} {l : List ByteArray} : chainF mac key c (r :: l) = chainF mac key (chainN mac key c r) l := rfl
theorem chainF_app {key : ByteArray} : ∀ (l m : List ByteArray) (c : ByteArray), chainF mac key c (l ++ m) = chainF mac key (chainF mac key c l) m
  | [], _, _ => rfl
  | r :: l, m, c => chainF_app l m (chainN mac key c r)
theorem chain_nil {key : ByteArray} : chain mac key [] = chainS mac key := rfl
theorem chain_snoc {key r : ByteArray} {l : List ByteArray} : chain mac key (l ++ [r]) = chainN mac key (chain mac key l) r := by
  unfold chain; rw [chainF_app]; rfl
theorem take_snoc {l : List ByteArray} {k : Nat} (h : k < l.length) : l.take (k + 1) = l.take k ++ [l[k]] := (List.take_append_getElem h).symm
theorem chain_step {key : ByteArray} {l : List ByteArray} {k : Nat} (h : k < l.length) : chain mac key (l.take (k + 1)) = chainN mac key (chain mac key (l.take k)) l[k] := by
  rw [take_snoc h, chain_snoc]
theorem logF_app {key : ByteArray} : ∀ (l m : List ByteArray) (c : ByteArray), logF mac key c (l ++ m) = logF mac key c l ++ logF mac key (chainF mac key c l) m
  | [], m, c => by
    show logF mac key c m = ByteArray.empty ++ logF mac key c m
    rw [ByteArray.empty_append]
  | r :: l, m, c => by
    show recB _ r ++ logF mac key _ (l ++ m) = recB _ r ++ logF mac key _ l ++ logF mac key _ m
    rw [logF_app l m, ByteArray.append_assoc]; rfl
theorem logB_nil {key : ByteArray} : logB mac key [] = ⟨#[]⟩ := rfl
theorem logB_snoc {key r : ByteArray} {l : List ByteArray} : logB mac key (l ++ [r]) = logB mac key l ++ recB (chain mac key (l ++ [r])) r := by
  rw [chain_snoc]
  unfold logB
  rw [logF_app]
  show _ ++ (recB _ r ++ ByteArray.empty) = _
  rw [ByteArray.append_empty]; rfl
theorem logB_step {key : ByteArray} {l : List ByteArray} {k : Nat} (h : k < l.length) : logB mac key (l.take (k + 1)) = logB mac key (l.take k) ++ recB (chain mac key (l.take (k + 1))) l[k] := by
  rw [take_snoc h, logB_snoc]
theorem logT_yes {key : ByteArray} {l : List ByteArray} (h : RecsL key l) (h2 : (logB mac key l).size ≤ 8000) : logT mac key l = logB mac key l := if_pos ⟨h, h2⟩
theorem logT_no {key : ByteArray} {l : List ByteArray} (h : ¬ RecsL key l) : logT mac key l = ⟨#[]⟩ := if_neg fun x => h x.1
theorem logT_long {key : ByteArray} {l : List ByteArray} (h : 8000 < (logB mac key l).size) : logT mac key l = ⟨#[]⟩ := if_neg fun x => by omega
theorem logT_nil {key : ByteArray} : logT mac key [] = ⟨#[]⟩ := by unfold logT; split <;> rfl
theorem readF_stop {key text c : ByteArray} {n : Nat} {i : Int} (h : ¬ NextL mac key text c i) : readF mac key text n c i = ([], i) := by
  cases n with
  | zero => rfl
  | succ n => exact if_neg h
theorem readF_go {key text c : ByteArray} {n : Nat} {i : Int} (h : NextL mac key text c i) : readF mac key text (n + 1) c i = ((textV text i).1 :: (readF mac key text n (chainN mac key c (textV text i).1) ((textV text i).2.1 + 8)).1, (readF mac key text n (chainN mac key c (textV text i).1) ((textV text i).2.1 + 8)).2) := if_pos h
/-- what is read: so many at most, each right -/
theorem readF_right {key text : ByteArray} : ∀ (n : Nat) (c : ByteArray) (i : Int), (readF mac key text n c i).1.length ≤ n ∧ ∀ r ∈ (readF mac key text n c i).1, r.size ≤ 200
  | 0, _, _ => ⟨Nat.le_refl _, fun r h => absurd h List.not_mem_nil⟩
  | n + 1, c, i => by
    by_cases h : NextL mac key text c i
    · rw [readF_go h]
      have ih := readF_right (key := key) (text := text) n (chainN mac key c (textV text i).1) ((textV text i).2.1 + 8)
      refine ⟨by show (_ :: _).length ≤ _; rw [List.length_cons]; omega, fun r hr => ?_⟩
      rcases List.mem_cons.1 hr with rfl | hr
      · exact h.2.1
      · exact ih.2 r hr
    · rw [readF_stop h]
      exact ⟨Nat.zero_le _, fun r h => by simp at h⟩
theorem readL_right {key text : ByteArray} (hk : KeyL key) : RecsL key (readL mac key text).1 := by
  have h := readF_right (mac := mac) (key := key) (text := text) 60 (chainS mac key) 0
  exact ⟨h.2, hk, h.1⟩
/-- the place behind what is read lies in the text -/
theorem readF_at {key text : ByteArray} : ∀ (n : Nat) (c : ByteArray) (i : Int), 0 ≤ i → i ≤ text.size → 0 ≤ (readF mac key text n c i).2 ∧ (readF mac key text n c i).2 ≤ text.size
  | 0, _, _, h, h2 => ⟨h, h2⟩
  | n + 1, c, i, h, h2 => by
    by_cases hn : NextL mac key text c i
    · rw [readF_go hn]
      have hr := textV_range hn.1
      have h3 := hn.2.2.1
      exact readF_at n _ _ (by omega) h3
    · rw [readF_stop hn]; exact ⟨h, h2⟩

theorem chainS_size (hm : ∀ k x : ByteArray, (mac k x).size = 32) {key : ByteArray} (h : KeyL key) : (chainS mac key).size = 32 := by rw [chainS_yes h, hm]
theorem chainN_size (hm : ∀ k x : ByteArray, (mac k x).size = 32) {key c r : ByteArray} (h : KeyL key) (hc : c.size = 32) (hr : r.size ≤ 200) : (chainN mac key c r).size = 32 := by rw [chainN_yes h hc hr, hm]
theorem chainF_size (hm : ∀ k x : ByteArray, (mac k x).size = 32) {key : ByteArray} (h : KeyL key) : ∀ (l : List ByteArray) (c : ByteArray), c.size = 32 → (∀ r ∈ l, r.size ≤ 200) → (chainF mac key c l).size = 32
  | [], c, hc, _ => hc
  | r :: l, c, hc, hr => by
    rw [chainF_cons]
    exact chainF_size hm h l _ (chainN_size hm h hc (hr r (List.mem_cons_self ..))) fun x hx => hr x (List.mem_cons_of_mem _ hx)
theorem chain_size (hm : ∀ k x : ByteArray, (mac k x).size = 32) {key : ByteArray} {l : List ByteArray} (h : RecsL key l) : (chain mac key l).size = 32 := chainF_size hm h.2.1 l _ (chainS_size hm h.2.1) h.1
theorem RecsL.take {key : ByteArray} {l : List ByteArray} (h : RecsL key l) (n : Nat) : RecsL key (l.take n) := by
  refine ⟨fun r hr => h.1 r (List.mem_of_mem_take hr), h.2.1, ?_⟩
  have := h.2.2
  rw [List.length_take]; omega
theorem ext8_size {c : ByteArray} (hc : c.size = 32) : (c.extract 0 8).size = 8 := by rw [ByteArray.size_extract]; omega
theorem recB_size {c r : ByteArray} (hc : c.size = 32) : (recB c r).size = (pn.numB (r.size : Int)).size + r.size + 8 := by
  unfold recB
  rw [ByteArray.size_append, ByteArray.size_append, ext8_size hc]
/-- records that stand behind some bytes are read -/
theorem read_log (hm : ∀ k x : ByteArray, (mac k x).size = 32) {key s : ByteArray} (hk : KeyL key) (hs : ¬ 8000 < s.size) : ∀ (l : List ByteArray) (c x y : ByteArray) (n : Nat), c.size = 32 → (∀ r ∈ l, r.size ≤ 200) →
    s.data.toList = x.data.toList ++ ((logF mac key c l).data.toList ++ y.data.toList) →
    readF mac key s (l.length + n) c (x.size : Int) = (l ++ (readF mac key s n (chainF mac key c l) ((x.size + (logF mac key c l).size : Nat) : Int)).1, (readF mac key s n (chainF mac key c l) ((x.size + (logF mac key c l).size : Nat) : Int)).2)
  | [], c, x, y, n, hc, hr, h => by
    show readF mac key s (0 + n) c (x.size : Int) = ([] ++ (readF mac key s n c ((x.size + 0 : Nat) : Int)).1, (readF mac key s n c ((x.size + 0 : Nat) : Int)).2)
    rw [Nat.zero_add, Nat.add_zero, List.nil_append]
  | r :: l, c, x, y, n, hc, hr, h => by
    have hr1 : r.size ≤ 200 := hr r (List.mem_cons_self ..)
    have hc' : (chainN mac key c r).size = 32 := chainN_size hm hk hc hr1
    have hF : logF mac key c (r :: l) = recB (chainN mac key c r) r ++ logF mac key (chainN mac key c r) l := rfl
    rw [hF] at h
    have hF2 : (logF mac key c (r :: l)).size = (pn.numB (r.size : Int)).size + r.size + 8 + (logF mac key (chainN mac key c r) l).size := by
      rw [hF, ByteArray.size_append, recB_size hc']
    have h1 : s.data.toList = x.data.toList ++ ((pn.numB (r.size : Int)).data.toList ++ (r.data.toList ++ ((chainN mac key c r).extract 0 8 ++ logF mac key (chainN mac key c r) l ++ y).data.toList)) := by
      rw [h]; unfold recB; simp
    have hT := text_at (by omega) hs h1
    have hsz : s.size = x.size + ((pn.numB (r.size : Int)).size + (r.size + (8 + (logF mac key (chainN mac key c r) l).size + y.size))) := by
      have e := congrArg List.length h1
      rw [len_data, List.length_append, List.length_append, List.length_append, len_data, len_data, len_data, len_data, ByteArray.size_append, ByteArray.size_append, ext8_size hc'] at e
      exact e
    have hN : NextL mac key s c (x.size : Int) := by
      unfold NextL
      rw [hT]
      refine ⟨rfl, hr1, by show ((x.size + (pn.numB (r.size : Int)).size + r.size : Nat) : Int) + 8 ≤ _; omega, ?_⟩
      show s.extract (((x.size + (pn.numB (r.size : Int)).size + r.size : Nat) : Int)).toNat (((x.size + (pn.numB (r.size : Int)).size + r.size : Nat) : Int) + 8).toNat = _
      rw [show (((x.size + (pn.numB (r.size : Int)).size + r.size : Nat) : Int)).toNat = x.size + (pn.numB (r.size : Int)).size + r.size by omega, show (((x.size + (pn.numB (r.size : Int)).size + r.size : Nat) : Int) + 8).toNat = x.size + (pn.numB (r.size : Int)).size + r.size + 8 by omega]
      apply bytes_inj
      have h2 : s.data.toList = (x.data.toList ++ ((pn.numB (r.size : Int)).data.toList ++ r.data.toList)) ++ (((chainN mac key c r).extract 0 8).data.toList ++ (logF mac key (chainN mac key c r) l ++ y).data.toList) := by
        rw [h1]; simp
      rw [extract_list, h2, List.drop_append_of_le_length (by rw [List.length_append, List.length_append, len_data, len_data, len_data]; omega), List.drop_of_length_le (by rw [List.length_append, List.length_append, len_data, len_data, len_data]; omega), List.nil_append, List.take_append_of_le_length (by rw [len_data, ext8_size hc']; omega), List.take_of_length_le (by rw [len_data, ext8_size hc']; omega)]
    have ih := read_log hm hk hs l (chainN mac key c r) (x ++ recB (chainN mac key c r) r) y n hc' (fun z hz => hr z (List.mem_cons_of_mem _ hz)) (by rw [h]; simp)
    have hx : (x ++ recB (chainN mac key c r) r).size = x.size + (pn.numB (r.size : Int)).size + r.size + 8 := by
      rw [ByteArray.size_append, recB_size hc']; omega
    rw [show (r :: l).length + n = (l.length + n) + 1 by rw [List.length_cons]; omega, readF_go hN, hT]
    show (r :: (readF mac key s (l.length + n) (chainN mac key c r) (((x.size + (pn.numB (r.size : Int)).size + r.size : Nat) : Int) + 8)).1, (readF mac key s (l.length + n) (chainN mac key c r) (((x.size + (pn.numB (r.size : Int)).size + r.size : Nat) : Int) + 8)).2) = _
    rw [show ((x.size + (pn.numB (r.size : Int)).size + r.size : Nat) : Int) + 8 = ((x ++ recB (chainN mac key c r) r).size : Int) by rw [hx]; omega, ih, hx, hF2, chainF_cons]
    rw [show x.size + (pn.numB (r.size : Int)).size + r.size + 8 + (logF mac key (chainN mac key c r) l).size = x.size + ((pn.numB (r.size : Int)).size + r.size + 8 + (logF mac key (chainN mac key c r) l).size) by omega]
    rfl
/-- a log's records come back -/
theorem read_back (hm : ∀ k x : ByteArray, (mac k x).size = 32) {key : ByteArray} {l : List ByteArray} (h : RecsL key l) (hz : (logB mac key l).size ≤ 8000) : readL mac key (logB mac key l) = (l, ((logB mac key l).size : Int)) := by
  have hs : ¬ 8000 < (logB mac key l).size := by omega
  have e := read_log hm h.2.1 hs l (chainS mac key) ⟨#[]⟩ ⟨#[]⟩ (60 - l.length) (chainS_size hm h.2.1) h.1 (by show _ = [] ++ ((logF mac key (chainS mac key) l).data.toList ++ []); rw [List.append_nil]; rfl)
  unfold readL
  rw [show (60 : Nat) = l.length + (60 - l.length) by have := h.2.2; omega]
  have hno : ¬ NextL mac key (logB mac key l) (chainF mac key (chainS mac key) l) ((0 + (logF mac key (chainS mac key) l).size : Nat) : Int) := by
    intro hn
    have h4 := textV_end_at hs
    have h0 := hn.1
    rw [Nat.zero_add] at h0
    rw [show (logF mac key (chainS mac key) l).size = (logB mac key l).size from rfl, h4] at h0
    exact absurd h0 (by decide)
  have e2 : readF mac key (logB mac key l) (l.length + (60 - l.length)) (chainS mac key) 0 = _ := e
  rw [e2]
  show (l ++ (readF mac key (logB mac key l) (60 - l.length) (chainF mac key (chainS mac key) l) ((0 + (logF mac key (chainS mac key) l).size : Nat) : Int)).1, _) = _
  rw [show (⟨#[]⟩ : ByteArray).size = 0 from rfl, readF_stop hno, List.append_nil, Nat.zero_add]
  rfl
/-- of a beginning of a text a beginning is read -/
theorem read_pre {key s t : ByteArray} (h : Pre s t) (ht : ¬ 8000 < t.size) : ∀ (n : Nat) (c : ByteArray) (i : Int), ∃ m, (readF mac key t n c i).1 = (readF mac key s n c i).1 ++ m
  | 0, _, _ => ⟨[], rfl⟩
  | n + 1, c, i => by
    by_cases hn : NextL mac key s c i
    · have e := textV_pre h ht hn.1
      have hr := textV_range hn.1
      have h3 := hn.2.2.1
      have hl := h.size_le
      have hn' : NextL mac key t c i := by
        unfold NextL
        rw [e]
        exact ⟨hn.1, hn.2.1, by omega, by rw [h.extract (by omega)]; exact hn.2.2.2⟩
      rw [readF_go hn, readF_go hn', e]
      obtain ⟨m, hm⟩ := read_pre h ht n (chainN mac key c (textV s i).1) ((textV s i).2.1 + 8)
      exact ⟨m, by rw [hm]; rfl⟩
    · rw [readF_stop hn]; exact ⟨_, rfl⟩
theorem readL_pre {key s t : ByteArray} (h : Pre s t) (ht : ¬ 8000 < t.size) : ∃ m, (readL mac key t).1 = (readL mac key s).1 ++ m := read_pre h ht 60 _ 0
end
end Go.Proofs.YtcfekhahibklfaaDoor.lg
