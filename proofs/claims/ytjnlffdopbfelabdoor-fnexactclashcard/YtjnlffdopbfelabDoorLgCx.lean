/-
  The program's Clash by a plain function; no old block turns. Condition: the table of the rounds' numbers lies in its variable.
-/
import Derived.Test.YtjnlffdopbfelabDoorLgCm
import Derived.Test.YtjnlffdopbfelabDoorLgA0
import Derived.Test.YtjnlffdopbfelabDoorLogX2
namespace Go.Proofs.YtjnlffdopbfelabDoor.li
open Go.ChangeShapes Go.WideShapes Go.ChangeAt Go.RowKit
open Go.Proofs.YtjnlffdopbfelabDoor.wi (heap_lt calls_w wp_w)
open Go.Proofs.YtjnlffdopbfelabDoor.lg Go.Proofs.YtjnlffdopbfelabDoor.ss
open Go.Proofs.YtjnlffdopbfelabDoor.lm (ClashPost InC0 infoC clash_stop)
open Go.Proofs.YtjnlffdopbfelabDoor.sh (macB macB_size Tab Tab.up Tab.below Tab.lt)
set_option linter.unusedVariables false
set_option linter.unusedSimpArgs false

theorem textC_take (key : ByteArray) (l : List ByteArray) {m k : Nat} (h : k < m) : textC macB key (l.take m) k = textC macB key l k := by
  unfold textC
  rw [List.take_take, Nat.min_eq_left (by omega)]
  congr 1
  rw [List.getD, List.getD, List.getElem?_take_of_lt h]
theorem clashF_take (key : ByteArray) (a b : List ByteArray) (m : Nat) : ∀ k, k ≤ m → clashF macB key (a.take m) (b.take m) k = clashF macB key a b k
  | 0, _ => rfl
  | k + 1, h => by
    have e : ∀ l : List ByteArray, (l.take m).take (k + 1) = l.take (k + 1) := fun l => by rw [List.take_take, Nat.min_eq_left h]
    by_cases hx : textC macB key a k ≠ textC macB key b k ∧ chain macB key (a.take (k + 1)) = chain macB key (b.take (k + 1))
    · rw [clashF_yes hx.1 hx.2, clashF_yes (by rw [textC_take _ _ h, textC_take _ _ h]; exact hx.1) (by rw [e, e]; exact hx.2), textC_take _ _ h, textC_take _ _ h]
    · rw [clashF_no hx, clashF_no (by rw [textC_take _ _ h, textC_take _ _ h, e, e]; exact hx), clashF_take key a b m k (by omega)]
set_option maxRecDepth 20000 in
set_option maxHeartbeats 8000000 in
theorem clashI_right (key : ByteArray) (n : Nat) (va vb : Value) (a b : List ByteArray) (w : World) (hR : ClashR key (n : Int) a b) (hva : SliceIs w va a) (hvb : SliceIs w vb b) (hca : Capd va) (hcb : Capd vb) (hT : Tab w) :
    Calls Tryd.prog 7 #[.string key, .int .i64 (n : Int), va, vb] w (ClashPost w (clashA macB key (n : Int) a b)) := by
  have hra := hR.1
  have hrb := hR.2.1
  have hna : n ≤ a.length := by have := hR.2.2; omega
  have hnb : n ≤ b.length := by have := hR.2.2; omega
  have hk := hra.2.1
  have hk64 := hk.2
  have hla := hra.2.2
  have hlb := hrb.2.2
  have HK : Hid (∀ u, Calls Tryd.prog 15 #[.string key] u fun e w' => e = .returned (.bool true) ∧ w' = u) := fun u => keyI_yes key u hk
  have HQa : Hid (∀ u, Below w.heap.size w u → Calls Tryd.prog 16 #[va] u fun r w' => r = .returned (.bool true) ∧ w' = u) := fun u hu => logI_yes va a u ⟨hra.1, hra.2.2⟩ (hva.up hu)
  have HQb : Hid (∀ u, Below w.heap.size w u → Calls Tryd.prog 16 #[vb] u fun r w' => r = .returned (.bool true) ∧ w' = u) := fun u hu => logI_yes vb b u ⟨hrb.1, hrb.2.2⟩ (hvb.up hu)
  have HWa : Hid (∀ u, Calls Tryd.prog 17 #[.int .i64 (n : Int), .int .i64 0, .int .i64 (a.length : Int)] u fun r w' => r = .returned (.bool true) ∧ w' = u) := fun u => by
    have := withinI_any (n : Int) 0 (a.length : Int) u
    rwa [decide_eq_true (by omega)] at this
  have HWb : Hid (∀ u, Calls Tryd.prog 17 #[.int .i64 (n : Int), .int .i64 0, .int .i64 (b.length : Int)] u fun r w' => r = .returned (.bool true) ∧ w' = u) := fun u => by
    have := withinI_any (n : Int) 0 (b.length : Int) u
    rwa [decide_eq_true (by omega)] at this
  obtain ⟨pa, ca, rfl⟩ := hva.shape
  obtain ⟨pb, cb, rfl⟩ := hvb.shape
  have hc1 := hca _ _ _ rfl
  have hc2 := hcb _ _ _ rfl
  have hlta : (a.take n).length = n := by rw [List.length_take]; omega
  have hltb : (b.take n).length = n := by rw [List.length_take]; omega
  have hsa : SliceIs w (.slice pa n n) (a.take n) := slice_take hva hna
  have hsb : SliceIs w (.slice pb n n) (b.take n) := slice_take hvb hnb
  have hra2 := hra.take n
  have hrb2 := hrb.take n
  have HFa : Hid (∀ u, Calls Tryd.prog 18 #[.slice pa a.length ca, .int .i64 (n : Int)] u fun e w' => e = .returned (.slice pa n n) ∧ w' = u) := fun u => firstOf_any pa a.length ca n u (by omega) hc1.2
  have HFb : Hid (∀ u, Calls Tryd.prog 18 #[.slice pb b.length cb, .int .i64 (n : Int)] u fun e w' => e = .returned (.slice pb n n) ∧ w' = u) := fun u => firstOf_any pb b.length cb n u (by omega) hc2.2
  have HE : Hid (∀ u, Below w.heap.size w u → Calls Tryd.prog 19 #[.slice pa n n, .slice pb n n] u fun e w' => e = .returned (.bool (decide (a.take n = b.take n))) ∧ Below u.heap.size u w') := fun u hu => equal_any _ _ (a.take n) (b.take n) u (by unfold maxLen; omega) (by unfold maxLen; omega) (hsa.up hu) (hsb.up hu)
  have HCa : Hid (∀ u, Below w.heap.size w u → Calls Tryd.prog 20 #[.string key, .slice pa n n] u fun r w' => r = .returned (.string (chain macB key (a.take n))) ∧ Below u.heap.size u w') := fun u hu => chainOf_any key _ (a.take n) u hk hra2.1 hra2.2.2 (hT.up hu) (hsa.up hu)
  have HCb : Hid (∀ u, Below w.heap.size w u → Calls Tryd.prog 20 #[.string key, .slice pb n n] u fun r w' => r = .returned (.string (chain macB key (b.take n))) ∧ Below u.heap.size u w') := fun u hu => chainOf_any key _ (b.take n) u hk hrb2.1 hrb2.2.2 (hT.up hu) (hsb.up hu)
  have HL : Hid (∀ u, Below w.heap.size w u → Calls Tryd.prog 21 #[.string key, .slice pa n n, .slice pb n n] u fun e w' => e = .returned (.agg #[.string (clashF macB key a b n).1, .string (clashF macB key a b n).2.1, .int .i64 0]) ∧ Below u.heap.size u w') := fun u hu => by
    have := lastI_any key _ _ (a.take n) (b.take n) u hra2 hrb2 (by rw [hlta, hltb]) (hT.up hu) (hsa.up hu) (hsb.up hu)
    rwa [hlta, clashF_take key a b n n (Nat.le_refl _)] at this
  have HD : Hid (clashA macB key (n : Int) a b = if a.take n = b.take n ∨ chain macB key (a.take n) ≠ chain macB key (b.take n) then (⟨#[]⟩, ⟨#[]⟩, 6) else clashF macB key a b n) := by
    show _ = _
    rw [clashA_right hR, Int.toNat_natCast]
  have HS0 : Hid (chain macB key (a.take n) = chain macB key (b.take n) → a.take n = b.take n ∨ (clashF macB key a b n).2.2 = 0) := fun h => clashF_some lm.macB_32 hra hrb n hna hnb h
  have d1 : decide (8000 < (key.size : Int)) = false := decide_eq_false (by omega)
  have d2 : decide (400 < (a.length : Int)) = false := decide_eq_false (by omega)
  have d3 : decide (400 < (b.length : Int)) = false := decide_eq_false (by omega)
  generalize clashA macB key (n : Int) a b = O at *
  clear hva hvb hca hcb hT hR hsa hsb hra2 hrb2 hlta hltb hra hrb hk
  have hI := InC0.start w
  go_enter Tryd.func7, Tryd.ntmps7
  go_wp2_with (go_at_call 15; fail)
  refine calls_w (InC0 w) hI ?_
  clear hI
  intro u hI
  have hIb : Below w.heap.size w u := hI.1
  refine (HK.out u).mono ?_
  rintro r w1 ⟨rfl, hw1⟩
  obtain rfl := hw1.symm
  go_wp2_with (first | (go_at_call 16; (first | (with_reducible refine (HQa.out _ hIb).mono ?_) | (with_reducible refine (HQb.out _ hIb).mono ?_)); rintro r w' ⟨rfl, hw'⟩; obtain rfl := hw'.symm))
  all_goals
    first | (with_reducible refine (HWa.out _).mono ?_) | (with_reducible refine (HWb.out _).mono ?_)
    rintro r w1 ⟨rfl, hw1⟩
    obtain rfl := hw1.symm
    clear HWa HWb HQa HQb HK d1 d2 d3
    go_wp2_with (first | (go_at_call 18; (first | (with_reducible refine (HFa.out _).mono ?_) | (with_reducible refine (HFb.out _).mono ?_)); rintro r w' ⟨rfl, hw'⟩; obtain rfl := hw'.symm) | (go_at_call 19; fail))
    by_cases he : a.take n = b.take n
    · have hO : O = (⟨#[]⟩, ⟨#[]⟩, 6) := by rw [HD.out, if_pos (.inl he)]
      rw [decide_eq_true he] at HE
      subst hO
      refine (HE.out u hIb).mono ?_
      rintro r w2 ⟨rfl, hb2⟩
      replace hI := hI.up hb2
      clear hb2 HE HCa HCb HL HD HS0 HFa HFb he hIb
      obtain ⟨⟨x0, x1, x2⟩, f0, f1, f2⟩ := hI.cells
      go_wp2
      repeat (refine ⟨trivial, ?_⟩; go_wp2)
      obtain ⟨hg, hB⟩ := hI.fin (.string ⟨#[]⟩) (.string ⟨#[]⟩) (.int .i64 6)
      exact bodyPost_ret (results_cell_row Tryd.results7 _ _ w.heap.size _ _ _ _ rfl hg Tryd.underlying25 rfl infoC) rfl ⟨rfl, hB⟩
    · rw [decide_eq_false he] at HE
      by_cases hc : chain macB key (a.take n) = chain macB key (b.take n)
      · have hO : O = ((clashF macB key a b n).1, (clashF macB key a b n).2.1, 0) := by
          rw [HD.out, if_neg (by rintro (h | h); exact he h; exact h hc)]
          have := (HS0.out hc).resolve_left he
          exact Prod.ext rfl (Prod.ext rfl this)
        have q := beqT hc
        generalize (clashF macB key a b n).1 = ca' at *
        generalize (clashF macB key a b n).2.1 = cb' at *
        subst hO
        generalize chain macB key (a.take n) = ya at *
        generalize chain macB key (b.take n) = yb at *
        refine (HE.out u hIb).mono ?_
        rintro r w2 ⟨rfl, hb2⟩
        replace hI := hI.up hb2
        clear hb2 HE HD HS0 HFa HFb he hIb hc
        go_wp2_with (go_at_call 20; fail)
        refine (HCa.out w2 hI.bel).mono ?_
        rintro r w3 ⟨rfl, hb3⟩
        replace hI := hI.up hb3
        clear hb3 HCa
        go_wp2_with (go_at_call 20; fail)
        refine (HCb.out w3 hI.bel).mono ?_
        rintro r w4 ⟨rfl, hb4⟩
        replace hI := hI.up hb4
        clear hb4 HCb
        go_wp2_with (go_at_call 21; fail)
        refine (HL.out w4 hI.bel).mono ?_
        rintro r w5 ⟨rfl, hb5⟩
        replace hI := hI.up hb5
        clear hb5 HL
        obtain ⟨⟨x0, x1, x2⟩, f0, f1, f2⟩ := hI.cells
        go_wp2
        obtain ⟨hg, hB⟩ := hI.fin (.string ca') (.string cb') (.int .i64 0)
        exact bodyPost_ret (results_cell_row Tryd.results7 _ _ w.heap.size _ _ _ _ rfl hg Tryd.underlying25 rfl infoC) rfl ⟨rfl, hB⟩
      · have hO : O = (⟨#[]⟩, ⟨#[]⟩, 6) := by rw [HD.out, if_pos (.inr hc)]
        subst hO
        have q := beqF hc
        generalize chain macB key (a.take n) = ya at *
        generalize chain macB key (b.take n) = yb at *
        refine (HE.out u hIb).mono ?_
        rintro r w2 ⟨rfl, hb2⟩
        replace hI := hI.up hb2
        clear hb2 HE HD HS0 HFa HFb he hIb hc HL
        go_wp2_with (go_at_call 20; fail)
        refine (HCa.out w2 hI.bel).mono ?_
        rintro r w3 ⟨rfl, hb3⟩
        replace hI := hI.up hb3
        clear hb3 HCa
        go_wp2_with (go_at_call 20; fail)
        refine (HCb.out w3 hI.bel).mono ?_
        rintro r w4 ⟨rfl, hb4⟩
        replace hI := hI.up hb4
        clear hb4 HCb
        obtain ⟨⟨x0, x1, x2⟩, f0, f1, f2⟩ := hI.cells
        go_wp2
        obtain ⟨hg, hB⟩ := hI.fin (.string ⟨#[]⟩) (.string ⟨#[]⟩) (.int .i64 6)
        exact bodyPost_ret (results_cell_row Tryd.results7 _ _ w.heap.size _ _ _ _ rfl hg Tryd.underlying25 rfl infoC) rfl ⟨rfl, hB⟩
set_option maxRecDepth 20000 in
set_option maxHeartbeats 8000000 in
/-- a text is too long, or a list is -/
theorem clashI_size (key : ByteArray) (n : Int) (va vb : Value) (a b : List ByteArray) (w : World) (hk : key.size ≤ maxLen) (hla : a.length ≤ maxLen) (hlb : b.length ≤ maxLen) (hva : SliceIs w va a) (hvb : SliceIs w vb b) (h : 8000 < key.size ∨ 400 < a.length ∨ 400 < b.length) :
    Calls Tryd.prog 7 #[.string key, .int .i64 n, va, vb] w (ClashPost w (⟨#[]⟩, ⟨#[]⟩, 2)) := by
  obtain ⟨hg, hB⟩ := clash_stop w 2
  obtain ⟨pa, ca, rfl⟩ := hva.shape
  obtain ⟨pb, cb, rfl⟩ := hvb.shape
  clear hva hvb
  unfold maxLen at hk hla hlb
  generalize a.length = la at *
  generalize b.length = lb at *
  by_cases h1 : 8000 < key.size
  · have d1 : decide (8000 < (key.size : Int)) = true := decide_eq_true (by omega)
    go_enter Tryd.func7, Tryd.ntmps7
    go_wp2
    exact bodyPost_ret (results_cell_row Tryd.results7 _ _ w.heap.size _ _ _ _ rfl hg Tryd.underlying25 rfl infoC) rfl ⟨rfl, hB⟩
  · have d1 : decide (8000 < (key.size : Int)) = false := decide_eq_false (by omega)
    by_cases h2 : 400 < la
    · have d2 : decide (400 < (la : Int)) = true := decide_eq_true (by omega)
      go_enter Tryd.func7, Tryd.ntmps7
      go_wp2
      exact bodyPost_ret (results_cell_row Tryd.results7 _ _ w.heap.size _ _ _ _ rfl hg Tryd.underlying25 rfl infoC) rfl ⟨rfl, hB⟩
    · have d2 : decide (400 < (la : Int)) = false := decide_eq_false (by omega)
      have d3 : decide (400 < (lb : Int)) = true := decide_eq_true (by omega)
      go_enter Tryd.func7, Tryd.ntmps7
      go_wp2
      exact bodyPost_ret (results_cell_row Tryd.results7 _ _ w.heap.size _ _ _ _ rfl hg Tryd.underlying25 rfl infoC) rfl ⟨rfl, hB⟩
set_option maxRecDepth 20000 in
set_option maxHeartbeats 8000000 in
theorem clashI_form (key : ByteArray) (n : Int) (va vb : Value) (a b : List ByteArray) (w : World) (hza : ∀ r ∈ a, r.size ≤ maxLen) (hzb : ∀ r ∈ b, r.size ≤ maxLen) (hva : SliceIs w va a) (hvb : SliceIs w vb b) (h0 : ¬ (8000 < key.size ∨ 400 < a.length ∨ 400 < b.length)) (h : ¬ ClashR key n a b) :
    Calls Tryd.prog 7 #[.string key, .int .i64 n, va, vb] w (ClashPost w (⟨#[]⟩, ⟨#[]⟩, 1)) := by
  have hla : a.length ≤ 400 := by omega
  have hlb : b.length ≤ 400 := by omega
  have d1 : decide (8000 < (key.size : Int)) = false := decide_eq_false (by omega)
  have d2 : decide (400 < (a.length : Int)) = false := decide_eq_false (by omega)
  have d3 : decide (400 < (b.length : Int)) = false := decide_eq_false (by omega)
  have hI := InC0.start w
  obtain ⟨dk, hdk, HK⟩ : ∃ d : Bool, (d = true ↔ KeyL key) ∧ Hid (∀ u, Calls Tryd.prog 15 #[.string key] u fun e w' => e = .returned (.bool d) ∧ w' = u) := by
    by_cases hk : KeyL key
    · exact ⟨true, by simp [hk], fun u => keyI_yes key u hk⟩
    · exact ⟨false, by simp [hk], fun u => keyI_no key u (by unfold maxLen; omega) hk⟩
  obtain ⟨da, hda, HQa⟩ : ∃ d : Bool, (d = true ↔ RecsR a) ∧ Hid (∀ u, Below w.heap.size w u → Calls Tryd.prog 16 #[va] u fun r w' => r = .returned (.bool d) ∧ w' = u) := by
    by_cases hr : RecsR a
    · exact ⟨true, by simp [hr], fun u hu => logI_yes va a u hr (hva.up hu)⟩
    · exact ⟨false, by simp [hr], fun u hu => logI_no va a u (by unfold maxLen; omega) hza hr (hva.up hu)⟩
  obtain ⟨db, hdb, HQb⟩ : ∃ d : Bool, (d = true ↔ RecsR b) ∧ Hid (∀ u, Below w.heap.size w u → Calls Tryd.prog 16 #[vb] u fun r w' => r = .returned (.bool d) ∧ w' = u) := by
    by_cases hr : RecsR b
    · exact ⟨true, by simp [hr], fun u hu => logI_yes vb b u hr (hvb.up hu)⟩
    · exact ⟨false, by simp [hr], fun u hu => logI_no vb b u (by unfold maxLen; omega) hzb hr (hvb.up hu)⟩
  have HWa : Hid (a.length ≤ b.length → dk = true → da = true → db = true → ∀ u, Calls Tryd.prog 17 #[.int .i64 n, .int .i64 0, .int .i64 (a.length : Int)] u fun r w' => r = .returned (.bool false) ∧ w' = u) := fun hle h1 h2 h3 u => by
    have := withinI_any n 0 (a.length : Int) u
    rwa [decide_eq_false (fun x => h ⟨⟨(hda.1 h2).1, hdk.1 h1, (hda.1 h2).2⟩, ⟨(hdb.1 h3).1, hdk.1 h1, (hdb.1 h3).2⟩, by omega, by omega, by omega⟩)] at this
  have HWb : Hid (b.length ≤ a.length → dk = true → da = true → db = true → ∀ u, Calls Tryd.prog 17 #[.int .i64 n, .int .i64 0, .int .i64 (b.length : Int)] u fun r w' => r = .returned (.bool false) ∧ w' = u) := fun hle h1 h2 h3 u => by
    have := withinI_any n 0 (b.length : Int) u
    rwa [decide_eq_false (fun x => h ⟨⟨(hda.1 h2).1, hdk.1 h1, (hda.1 h2).2⟩, ⟨(hdb.1 h3).1, hdk.1 h1, (hdb.1 h3).2⟩, by omega, by omega, by omega⟩)] at this
  obtain ⟨pa, ca, rfl⟩ := hva.shape
  obtain ⟨pb, cb, rfl⟩ := hvb.shape
  generalize a.length = la at *
  generalize b.length = lb at *
  clear hva hvb hza hzb h hdk hda hdb h0
  cases dk
  · go_enter Tryd.func7, Tryd.ntmps7
    go_wp2_with (go_at_call 15; fail)
    refine calls_w (InC0 w) hI ?_
    clear hI
    intro u hI
    refine (HK.out u).mono ?_
    rintro r w1 ⟨rfl, hw1⟩
    obtain rfl := hw1.symm
    clear HWa HWb HQa HQb HK d1 d2 d3
    obtain ⟨⟨x0, x1, x2⟩, f0, f1, f2⟩ := hI.cells
    go_wp2
    obtain ⟨hg, hB⟩ := hI.fin (.string ⟨#[]⟩) (.string ⟨#[]⟩) (.int .i64 1)
    exact bodyPost_ret (results_cell_row Tryd.results7 _ _ w.heap.size _ _ _ _ rfl hg Tryd.underlying25 rfl infoC) rfl ⟨rfl, hB⟩
  · cases da
    · go_enter Tryd.func7, Tryd.ntmps7
      go_wp2_with (go_at_call 15; fail)
      refine calls_w (InC0 w) hI ?_
      clear hI
      intro u hI
      have hIb : Below w.heap.size w u := hI.1
      refine (HK.out u).mono ?_
      rintro r w1 ⟨rfl, hw1⟩
      obtain rfl := hw1.symm
      go_wp2_with (go_at_call 16; fail)
      refine (HQa.out u hIb).mono ?_
      rintro r w1 ⟨rfl, hw1⟩
      obtain rfl := hw1.symm
      clear HWa HWb HQa HQb HK d1 d2 d3
      obtain ⟨⟨x0, x1, x2⟩, f0, f1, f2⟩ := hI.cells
      go_wp2
      obtain ⟨hg, hB⟩ := hI.fin (.string ⟨#[]⟩) (.string ⟨#[]⟩) (.int .i64 1)
      exact bodyPost_ret (results_cell_row Tryd.results7 _ _ w.heap.size _ _ _ _ rfl hg Tryd.underlying25 rfl infoC) rfl ⟨rfl, hB⟩
    · go_enter Tryd.func7, Tryd.ntmps7
      go_wp2_with (go_at_call 15; fail)
      refine calls_w (InC0 w) hI ?_
      clear hI
      intro u hI
      have hIb : Below w.heap.size w u := hI.1
      refine (HK.out u).mono ?_
      rintro r w1 ⟨rfl, hw1⟩
      obtain rfl := hw1.symm
      go_wp2_with (go_at_call 16; fail)
      refine (HQa.out u hIb).mono ?_
      rintro r w1 ⟨rfl, hw1⟩
      obtain rfl := hw1.symm
      go_wp2_with (go_at_call 16; fail)
      refine (HQb.out u hIb).mono ?_
      rintro r w1 ⟨rfl, hw1⟩
      obtain rfl := hw1.symm
      clear HQa HQb HK
      cases db
      · clear HWa HWb d1 d2 d3
        obtain ⟨⟨x0, x1, x2⟩, f0, f1, f2⟩ := hI.cells
        go_wp2
        obtain ⟨hg, hB⟩ := hI.fin (.string ⟨#[]⟩) (.string ⟨#[]⟩) (.int .i64 1)
        exact bodyPost_ret (results_cell_row Tryd.results7 _ _ w.heap.size _ _ _ _ rfl hg Tryd.underlying25 rfl infoC) rfl ⟨rfl, hB⟩
      · go_wp2_with (go_at_call 17; fail)
        all_goals
          first | (with_reducible refine (HWa.out (by omega) (by trivial) (by trivial) (by trivial) _).mono ?_) | (with_reducible refine (HWb.out (by omega) (by trivial) (by trivial) (by trivial) _).mono ?_)
          rintro r w1 ⟨rfl, hw1⟩
          obtain rfl := hw1.symm
          clear HWa HWb d1 d2 d3
          obtain ⟨⟨x0, x1, x2⟩, f0, f1, f2⟩ := hI.cells
          go_wp2
          obtain ⟨hg, hB⟩ := hI.fin (.string ⟨#[]⟩) (.string ⟨#[]⟩) (.int .i64 1)
          exact bodyPost_ret (results_cell_row Tryd.results7 _ _ w.heap.size _ _ _ _ rfl hg Tryd.underlying25 rfl infoC) rfl ⟨rfl, hB⟩
theorem clashI_any (key : ByteArray) (n : Int) (va vb : Value) (a b : List ByteArray) (w : World) (hk : key.size ≤ maxLen) (hla : a.length ≤ maxLen) (hlb : b.length ≤ maxLen) (hza : ∀ r ∈ a, r.size ≤ maxLen) (hzb : ∀ r ∈ b, r.size ≤ maxLen) (hva : SliceIs w va a) (hvb : SliceIs w vb b) (hca : Capd va) (hcb : Capd vb) (hT : Tab w) :
    Calls Tryd.prog 7 #[.string key, .int .i64 n, va, vb] w (ClashPost w (clashA macB key n a b)) := by
  by_cases h0 : 8000 < key.size ∨ 400 < a.length ∨ 400 < b.length
  · rw [clashA_size h0]; exact clashI_size key n va vb a b w hk hla hlb hva hvb h0
  · by_cases h : ClashR key n a b
    · obtain ⟨m, rfl⟩ : ∃ m : Nat, n = (m : Int) := ⟨n.toNat, by have := h.2.2; omega⟩
      exact clashI_right key m va vb a b w h hva hvb hca hcb hT
    · rw [clashA_form h0 h]; exact clashI_form key n va vb a b w hza hzb hva hvb h0 h
end Go.Proofs.YtjnlffdopbfelabDoor.li
