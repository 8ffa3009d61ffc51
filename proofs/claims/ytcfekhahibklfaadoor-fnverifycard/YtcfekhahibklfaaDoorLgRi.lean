/-
  The program's iterator over a log's text (recordsIn): its contract, for every loop body that keeps what lay below n0, the first cell of each block from B on, and each block of bytes from B on. Condition: the table of the rounds' numbers lies in its variable.
-/
import Derived.Test.YtcfekhahibklfaaDoorLgIt
import Derived.Test.YtcfekhahibklfaaDoorLgMk
import Derived.Test.YtcfekhahibklfaaDoorMg7
namespace Go.Proofs.YtcfekhahibklfaaDoor.li
open Go.ChangeShapes Go.WideShapes Go.ChangeAt Go.RowKit Go.Shelf
open Go.Proofs.YtcfekhahibklfaaDoor.wi (heap_lt calls_w wp_w)
open Go.Proofs.YtcfekhahibklfaaDoor.lg Go.Proofs.YtcfekhahibklfaaDoor.ss
open Go.Proofs.YtcfekhahibklfaaDoor.tp (textV)
open Go.Proofs.YtcfekhahibklfaaDoor.gt (tupT readText_any)
open Go.Proofs.YtcfekhahibklfaaDoor.gi (errV errV_ok)
open Go.Proofs.YtcfekhahibklfaaDoor.sh (macB macB_size Tab Tab.up Tab.below)
set_option linter.unusedVariables false
set_option linter.unusedSimpArgs false
attribute [local go_sem] Oper.semAt_some

/-- the records with their places, of the whole text -/
def seqL (key text : ByteArray) : List (ByteArray × Int) := seqF key text 60 (chainS macB key) 0
def encR (key text : ByteArray) (k : Fin (seqL key text).length) : Array Value := #[.string ((seqL key text).getD k.1 (⟨#[]⟩, 0)).1, .int .i64 ((seqL key text).getD k.1 (⟨#[]⟩, 0)).2]
/-- a text's bytes in a block of their own -/
theorem bytes_of2 (s : ByteArray) (u : World) (hs : s.size ≤ 8000) : ∃ (cap : Nat) (W : World), (convert 9 22 (.string s)).run Tryd.prog u = .ok (.slice (some ⟨u.heap.size, 0, none⟩) s.size cap) W ∧ s.size ≤ cap ∧ cap ≤ maxLen ∧ RowT W u.heap.size s ∧ Below u.heap.size u W ∧ u.heap.size < W.heap.size ∧ ∃ c m, W.heap[u.heap.size]? = some (.cells c 5 m) := by
  obtain ⟨cap, W, h1, h2, h3, h4, h5, h6⟩ := bytes_of s u hs
  have h7 := run_bytes_of_string (P := Tryd.prog) u 9 22 5 s Tryd.underlying9 Tryd.underlying22 Tryd.underlying5
  rw [h7] at h1
  injection h1 with h8 h9
  refine ⟨cap, W, by rw [h7, h8, h9], h2, h3, h4, h5, h6, ?_⟩
  rw [← h9]
  exact ⟨_, _, heap_alloc_new u.drew _⟩
theorem RowT.kept {W u : World} {g : Nat} {s : ByteArray} (h : RowT W g s) (e : u.heap[g]? = W.heap[g]?) : RowT u g s := fun j hj => (World.cell?_of_block (w := W) (a := ⟨g, j, none⟩) e).trans (h j hj)
/-- what is known at the head of the loop, when so many have been handed on -/
structure AtI (key text : ByteArray) (k i : Nat) (c : ByteArray) : Prop where
  i1 : i ≤ text.size
  c32 : c.size = 32
  k60 : k ≤ 60
  told : ∃ pre, pre.length = k ∧ seqL key text = pre ++ seqF key text (60 - k) c (i : Int)
theorem AtI.start {key text : ByteArray} (hk : KeyL key) : AtI key text 0 0 (chainS macB key) := ⟨Nat.zero_le _, chainS_size lm.macB_32 hk, by omega, [], rfl, rfl⟩
theorem AtI.stop {key text c : ByteArray} {k i : Nat} (h : AtI key text k i c) (hn : ¬ NextL macB key text c (i : Int)) : (seqL key text).length = k := by
  obtain ⟨pre, h1, h2⟩ := h.told
  rw [h2, seqF_stop hn, List.append_nil, h1]
theorem AtI.full {key text c : ByteArray} {i : Nat} (h : AtI key text 60 i c) : (seqL key text).length = 60 := by
  obtain ⟨pre, h1, h2⟩ := h.told
  rw [h2]
  show (pre ++ []).length = 60
  rw [List.append_nil, h1]
theorem AtI.step {key text c r : ByteArray} {k i : Nat} {j : Int} (hk : KeyL key) (h : AtI key text k i c) (hlt : k < 60) (ht : textV text (i : Int) = (r, j, 0)) (hr : r.size ≤ 200) (hj : j + 8 ≤ (text.size : Int)) (hx : text.extract j.toNat (j + 8).toNat = (chainN macB key c r).extract 0 8) :
    k < (seqL key text).length ∧ (seqL key text).getD k (⟨#[]⟩, 0) = (r, j + 8) ∧ 0 ≤ j ∧ AtI key text (k + 1) (j + 8).toNat (chainN macB key c r) := by
  have hN : NextL macB key text c (i : Int) := by
    unfold NextL
    rw [ht]
    exact ⟨rfl, hr, hj, hx⟩
  have hrg := lg.textV_range hN.1
  rw [ht] at hrg
  obtain ⟨pre, h1, h2⟩ := h.told
  have e : 60 - k = (60 - (k + 1)) + 1 := by omega
  rw [e, seqF_go hN, ht] at h2
  have hj0 : 0 ≤ j := hrg.1
  refine ⟨?_, ?_, hj0, ⟨by omega, chainN_size lm.macB_32 hk h.c32 hr, by omega, pre ++ [(r, j + 8)], ?_, ?_⟩⟩
  · rw [h2, List.length_append, List.length_cons]; omega
  · rw [h2, List.getD, List.getElem?_append_right (by omega), h1, Nat.sub_self]; rfl
  · rw [List.length_append, h1]; rfl
  · rw [h2, List.append_assoc]
    show _ = pre ++ ((r, j + 8) :: seqF key text (60 - (k + 1)) (chainN macB key c r) (((j + 8).toNat : Nat) : Int))
    rw [show (((j + 8).toNat : Nat) : Int) = j + 8 by omega]
set_option maxHeartbeats 8000000 in
set_option maxRecDepth 100000 in
theorem records_stops (m n₀ B : Nat) (key text : ByteArray) (kb tb : Nat) (w0 : World) (hm : 1 ≤ m) (hk : KeyL key) (ht : text.size ≤ 8000) (hT : Tab w0) (hTn : 0 < n₀) (hn : n₀ ≤ w0.heap.size) (hB : B ≤ w0.heap.size) (hBt : B ≤ tb)
    (hkb : w0.cell? ⟨kb, 0, none⟩ = some (.string key)) (htb : w0.cell? ⟨tb, 0, none⟩ = some (.string text)) :
    SeqStopsK Fence.wide m Tryd.prog 68 #[.pointer (some ⟨kb, 0, none⟩), .pointer (some ⟨tb, 0, none⟩)] (encR key text) (Kc n₀ B) (fun xs => xs = List.finRange (seqL key text).length) (fun _ => True) (seqL key text).length w0 := by
  intro lp J Jx W hW hJ hJx hY h0
  have hTW : Tab W := hT.up hW
  have hkbW : W.cell? ⟨kb, 0, none⟩ = some (.string key) := (hW.cell (p := ⟨kb, 0, none⟩) (World.block_lt_of_cell? w0 _ hkb)).trans hkb
  have htbW : W.cell? ⟨tb, 0, none⟩ = some (.string text) := (hW.cell (p := ⟨tb, 0, none⟩) (World.block_lt_of_cell? w0 _ htb)).trans htb
  have hWs := hW.size
  have HW0 : Hid (n₀ ≤ W.heap.size ∧ B ≤ W.heap.size) := ⟨by omega, by omega⟩
  have HT : Hid (∀ u, Below n₀ W u → Tab u) := fun u hu => hTW.below hu hTn
  obtain ⟨W2, hW2⟩ : ∃ W2, W2 = W.alloc (boxT key) := ⟨_, rfl⟩
  have hb2 : Below W.heap.size W W2 := by rw [hW2]; exact (Below.refl _ _).alloc (Nat.le_refl _) _
  have hg2 : W2.cell? ⟨W.heap.size, 0, none⟩ = some (.string key) := by rw [hW2]; simp [boxT]
  have hk2 : W2.cell? ⟨kb, 0, none⟩ = some (.string key) := (hb2.cell (p := ⟨kb, 0, none⟩) (World.block_lt_of_cell? W _ hkbW)).trans hkbW
  have ht2 : W2.cell? ⟨tb, 0, none⟩ = some (.string text) := (hb2.cell (p := ⟨tb, 0, none⟩) (World.block_lt_of_cell? W _ htbW)).trans htbW
  have HN : Hid (Calls Tryd.prog 51 #[.string key] W fun e w' => e = .returned (.func (.func 72) #[] #[.pointer (some ⟨W.heap.size, 0, none⟩)]) ∧ w' = W2) := by rw [hW2]; exact nextBy_any key W
  have HS : Hid (Calls Tryd.prog 18 #[.string key] W2 fun r w' => r = .returned (.string (chainS macB key)) ∧ Below W2.heap.size W2 w') := startI_any key W2 (by have := hk.2; unfold maxLen; omega) (hTW.up hb2)
  have H0 : Hid (J [] W2) := Abid.up hJ h0 hb2
  have HJ : Hid (∀ s u u', J s u → Below u.heap.size u u' → J s u') := fun s u u' h hb => Abid.up hJ h hb
  have HY : Hid (∀ (k : Nat) (hk : k < (seqL key text).length) u, J (upF (seqL key text).length k) u → YieldAt Fence.wide (m - 1) Tryd.prog lp #[.string ((seqL key text).getD k (⟨#[]⟩, 0)).1, .int .i64 ((seqL key text).getD k (⟨#[]⟩, 0)).2] u fun e W' =>
      (e = .returned (.bool true) ∧ J (upF (seqL key text).length (k + 1)) W' ∧ Kc n₀ B u W') ∨ (e = .returned (.bool false) ∧ Jx (upF (seqL key text).length (k + 1)) W')) := fun k hk u hu => by
    have h := hY (upF (seqL key text).length k) ⟨k, hk⟩ u hu (by rw [upF_length (by omega)]; exact hk)
    rw [upF_succ hk]
    exact h
  have HCB : Hid (∀ u, ∃ (cap : Nat) (U : World), (convert 9 22 (.string text)).run Tryd.prog u = .ok (.slice (some ⟨u.heap.size, 0, none⟩) text.size cap) U ∧ text.size ≤ cap ∧ cap ≤ maxLen ∧ RowT U u.heap.size text ∧ Below u.heap.size u U ∧ u.heap.size < U.heap.size ∧ ∃ c m, U.heap[u.heap.size]? = some (.cells c 5 m)) := fun u => bytes_of2 text u ht
  have HA0 : Hid (AtI key text 0 0 (chainS macB key)) := AtI.start hk
  obtain ⟨c0, hc0⟩ : ∃ c0, c0 = chainS macB key := ⟨_, rfl⟩
  rw [← hc0] at HS HA0
  clear hY hJ hJx hT hkb htb hTW h0 hc0 hW2
  refine callsIn_of_wp Tryd.func68 rfl trivial ?_ rfl
  simp only [Tryd.ntmps68, List.size_toArray, List.length_cons, List.length_nil, Nat.reduceAdd, Nat.reduceSub, Array.replicate_succ, Array.replicate_zero, List.push_toArray, List.append_toArray, List.nil_append, List.cons_append]
  gi_wp2_with (first | (refine ⟨trivial, ?_⟩; gi_at_call 51; refine (callsIn_wide.2 HN.out).mono ?_; rintro e w' ⟨rfl, hw'⟩; obtain rfl := hw'.symm) | (refine ⟨trivial, ?_⟩; gi_at_call 18; refine (callsIn_wide.2 HS.out).mono ?_; rintro e w3 ⟨rfl, hb3⟩; have ht3 : w3.cell? ⟨tb, 0, none⟩ = some (.string text) := ((hb3.cell (p := ⟨tb, 0, none⟩) (World.block_lt_of_cell? W2 _ ht2)).trans ht2); obtain ⟨cap, U, hrun, hcap, hmax, hrow, hbU, hlt, cs, mk, hblk⟩ := HCB.out w3))
  have hB3 : Below W.heap.size W w3 := hb2.trans (hb3.mono hb2.size)
  have hg3 : w3.cell? ⟨W.heap.size, 0, none⟩ = some (.string key) := (hb3.cell (p := ⟨W.heap.size, 0, none⟩) (World.block_lt_of_cell? W2 _ hg2)).trans hg2
  have hgU : U.cell? ⟨W.heap.size, 0, none⟩ = some (.string key) := (hbU.cell (p := ⟨W.heap.size, 0, none⟩) (World.block_lt_of_cell? w3 _ hg3)).trans hg3
  have htU : U.cell? ⟨tb, 0, none⟩ = some (.string text) := (hbU.cell (p := ⟨tb, 0, none⟩) (World.block_lt_of_cell? w3 _ ht3)).trans ht3
  have HJU : Hid (J (upF (seqL key text).length 0) U) := HJ.out [] w3 U (HJ.out [] W2 w3 H0.out hb3) hbU
  have HBU : Hid (Below n₀ W U) := (hB3.trans (hbU.mono hB3.size)).mono HW0.out.1
  have HG : Hid (n₀ ≤ w3.heap.size ∧ B ≤ w3.heap.size ∧ B ≤ W.heap.size ∧ B ≤ tb) := ⟨Nat.le_trans HW0.out.1 hB3.size, Nat.le_trans HW0.out.2 hB3.size, HW0.out.2, hBt⟩
  have HRow : Hid (∀ u : World, u.heap[w3.heap.size]? = some (.cells cs 5 mk) → RowT u w3.heap.size text) := fun u hu => hrow.kept (hu.trans hblk.symm)
  generalize w3.heap.size = g at *
  clear hrow hbU hB3 hg3 ht3 hb3 hg2 ht2 hk2 hb2 H0 HN HS hkbW htbW HCB hrun hlt
  have hk64 : key.size ≤ 64 := hk.2
  gi_loopw [5, 7, 8, 9, 10, 17] (fun c a _ _ _ i u => ∃ (k ip : Nat) (cc : ByteArray), k ≤ 60 ∧ i = .int .i64 k ∧ c = .string cc ∧ a = .int .i64 ip ∧ Hid (AtI key text k ip cc) ∧ Hid (Below n₀ W u) ∧ u.cell? ⟨W.heap.size, 0, none⟩ = some (.string key) ∧ u.cell? ⟨tb, 0, none⟩ = some (.string text) ∧ u.heap[g]? = some (.cells cs 5 mk) ∧ Hid (J (upF (seqL key text).length k) u)) (fun _ _ _ _ _ i _ => 60 - (intOf i).toNat)
  case atStart => exact ⟨0, 0, c0, by omega, rfl, rfl, rfl, HA0, HBU, hgU, htU, hblk, HJU⟩
  case round =>
    clear hgU htU hblk HJU HBU HA0
    obtain ⟨k, ip, cc, hk60, rfl, rfl, rfl, HA, HB, hg, htx, hblk, HJk⟩ := hrel
    have hwlt := World.block_lt_of_cell? wr _ hg
    have htlt := World.block_lt_of_cell? wr _ htx
    have hglt := heap_lt hblk
    have hi1 := HA.out.i1
    have hc32 := HA.out.c32
    by_cases hlt : k < 60
    · obtain ⟨r, j, cd, hT2⟩ : ∃ r j cd, textV text (ip : Int) = (r, j, cd) := ⟨_, _, _, rfl⟩
      have HR : Hid (∀ u, Calls Tryd.prog 69 #[.string text, .int .i64 (ip : Int)] u fun e w' => e = .returned (.tuple #[.string r, .int .i64 j, errV cd]) ∧ Below u.heap.size u w') := fun u => by
        have := readText_any text (ip : Int) u ht (by simp [Lit.wf, IntKind.min, IntKind.max, IntKind.signed, IntKind.bits]; omega)
        rw [hT2] at this
        exact this
      have HT2 : Hid (textV text (ip : Int) = (r, j, cd)) := hT2
      clear hT2
      by_cases hcd : cd = 0
      · subst hcd
        have hjr := lg.textV_range (s := text) (i := (ip : Int)) (by rw [HT2.out])
        rw [HT2.out] at hjr
        obtain ⟨hj0, hj1, hj8⟩ := hjr
        simp only at hj0 hj1 hj8
        obtain ⟨jn, rfl⟩ : ∃ jn : Nat, j = (jn : Int) := ⟨j.toNat, by omega⟩
        rw [errV_ok] at HR
        by_cases hr200 : r.size ≤ 200
        · have HQ : Hid (∀ u, Calls Tryd.prog 50 #[.string r] u fun e w' => e = .returned (.bool true) ∧ w' = u) := fun u => by
            have := recI_any r u (Nat.le_trans hr200 (by decide))
            rwa [decide_eq_true hr200] at this
          have HX : Hid (∀ u, Below n₀ W u → u.cell? ⟨W.heap.size, 0, none⟩ = some (.string key) → Calls Tryd.prog 72 #[.string cc, .string r, .pointer (some ⟨W.heap.size, 0, none⟩)] u fun e w' => e = .returned (.string (chainN macB key cc r)) ∧ Below u.heap.size u w') := fun u hu hcell => by
            rw [chainN_yes hk hc32 hr200]
            exact step_any key cc r W.heap.size u (by omega) (by omega) (HT.out u hu) hcell
          have hd32 : (chainN macB key cc r).size = 32 := chainN_size lm.macB_32 hk hc32 hr200
          have HSt : Hid ((jn + 8 ≤ text.size ∧ text.extract jn (jn + 8) = (chainN macB key cc r).extract 0 8) → k < (seqL key text).length ∧ (seqL key text).getD k (⟨#[]⟩, 0) = (r, (jn : Int) + 8) ∧ AtI key text (k + 1) (jn + 8) (chainN macB key cc r)) := fun hx => by
            obtain ⟨h1, h2, _, h4⟩ := AtI.step hk HA.out hlt HT2.out hr200 (by omega) (by rw [show ((jn : Int) + 8).toNat = jn + 8 by omega]; exact hx.2)
            rw [show ((jn : Int) + 8).toNat = jn + 8 by omega] at h4
            exact ⟨h1, h2, h4⟩
          have HSp : Hid (¬ (jn + 8 ≤ text.size ∧ text.extract jn (jn + 8) = (chainN macB key cc r).extract 0 8) → (seqL key text).length = k) := fun hx => HA.out.stop fun hN => by
            unfold NextL at hN
            rw [HT2.out] at hN
            refine hx ⟨by have := hN.2.2.1; simp only at this; omega, ?_⟩
            have := hN.2.2.2
            simpa [show ((jn : Int) + 8).toNat = jn + 8 by omega] using this
          generalize chainN macB key cc r = cn at *
          have HM : Hid (∀ u, u.heap[g]? = some (.cells cs 5 mk) → Calls Tryd.prog 70 #[.slice (some ⟨g, 0, none⟩) text.size cap, .int .i64 (jn : Int), .string cn] u fun e w' => e = .returned (.bool (decide (jn + 8 ≤ text.size ∧ text.extract jn (jn + 8) = cn.extract 0 8))) ∧ Below u.heap.size u w') := fun u hu => marked_any text cn g cap jn u ht hd32 hcap hmax (by omega) (heap_lt hu) (HRow.out u hu)
          have HUP : Hid (∀ u, Below wr.heap.size wr u → u.cell? ⟨W.heap.size, 0, none⟩ = some (.string key) ∧ u.cell? ⟨tb, 0, none⟩ = some (.string text) ∧ u.heap[g]? = some (.cells cs 5 mk) ∧ Below n₀ W u ∧ J (upF (seqL key text).length k) u) := fun u hu => ⟨(hu.cell (p := ⟨W.heap.size, 0, none⟩) hwlt).trans hg, (hu.cell (p := ⟨tb, 0, none⟩) htlt).trans htx, (hu.block g hglt).trans hblk, HB.out.trans (hu.mono (by have := HB.out.size; have := HW0.out.1; omega)), HJ.out _ _ _ HJk.out hu⟩
          have HYk : Hid (k < (seqL key text).length → (seqL key text).getD k (⟨#[]⟩, 0) = (r, (jn : Int) + 8) → ∀ u, J (upF (seqL key text).length k) u → YieldAt Fence.wide (m - 1) Tryd.prog lp #[.string r, .int .i64 ((jn : Int) + 8)] u fun e W' =>
            (e = .returned (.bool true) ∧ J (upF (seqL key text).length (k + 1)) W' ∧ Kc n₀ B u W') ∨ (e = .returned (.bool false) ∧ Jx (upF (seqL key text).length (k + 1)) W')) := fun h1 h2 u hu => by
            have := HY.out k h1 u hu
            rwa [h2] at this
          clear HA HT2 HB hblk HJk HY HRow hj8
          by_cases hx : jn + 8 ≤ text.size ∧ text.extract jn (jn + 8) = cn.extract 0 8
          · obtain ⟨h1, h2, h4⟩ := HSt.out hx
            rw [decide_eq_true hx] at HM
            have HY2 := HYk.out h1 h2
            have HA4 : Hid (AtI key text (k + 1) (jn + 8) cn) := h4
            have HY3 : Hid _ := HY2
            clear HYk HSt HSp hx h1 h2 h4 HY2
            gi_wp2_with (first | (refine ⟨trivial, ?_⟩; gi_at_call 69; refine (callsIn_wide.2 (HR.out _)).mono ?_; rintro e u1 ⟨rfl, hb1⟩; obtain ⟨ha1, ha2, ha3, ha4, ha5⟩ := HUP.out u1 hb1) | (refine ⟨trivial, ?_⟩; gi_at_call 50; refine (callsIn_wide.2 (HQ.out _)).mono ?_; rintro e u0 ⟨rfl, hu0⟩; obtain rfl := hu0.symm) | (refine ⟨trivial, ?_⟩; gi_at_call 72; refine (callsIn_wide.2 (HX.out _ ha4 ha1)).mono ?_; rintro e u2 ⟨rfl, hb2⟩; have hb12 := hb1.trans (hb2.mono hb1.size); obtain ⟨hc1, hc2, hc3, hc4, hc5⟩ := HUP.out u2 hb12) | (refine ⟨trivial, ?_⟩; gi_at_call 70; refine (callsIn_wide.2 (HM.out _ hc3)).mono ?_; rintro e u3 ⟨rfl, hb3⟩; have hb13 := hb12.trans (hb3.mono hb12.size); obtain ⟨hd1, hd2, hd3, hd4, hd5⟩ := HUP.out u3 hb13; obtain ⟨fn, tmps, assign, body, hy, hR⟩ := HY3.out u3 hd5))
            refine hR.mono ?_
            rintro e W3 (⟨rfl, hJ3, hk3⟩ | ⟨rfl, hJx3⟩)
            · have hg3 := hk3.first W.heap.size _ HG.out.2.2.1 hd1
              have ht3 := hk3.first tb _ HG.out.2.2.2 hd2
              have hb3' := hk3.bytes g _ _ HG.out.2.1 hd3
              have HB' : Hid (Below n₀ W W3) := hd4.trans hk3.below
              have HJ3 : Hid (J (upF (seqL key text).length (k + 1)) W3) := hJ3
              clear hk3 hR hy ha1 ha2 ha3 ha4 ha5 hc1 hc2 hc3 hc4 hc5 hd1 hd2 hd3 hd4 hd5 hJ3 hb1 hb2 hb3 hb12 hb13
              gi_wp2
              exact ⟨⟨k + 1, jn + 8, cn, by omega, by go_num, rfl, by go_num, HA4, HB', hg3, ht3, hb3', HJ3⟩, by simp [intOf]; omega⟩
            · gi_wp2
              refine bodyPost_ret (results_none rfl _ _ _) rfl ?_
              exact ⟨⟨_, rfl⟩, .inr ⟨_, trivial, hJx3⟩⟩
          · have hN := HSp.out hx
            rw [decide_eq_false hx] at HM
            have HUJ : Hid (upF (seqL key text).length k = List.finRange (seqL key text).length) := by
              show _ = _
              rw [← hN]; exact upF_all _
            clear HYk HSt HSp hx hN
            gi_wp2_with (first | (refine ⟨trivial, ?_⟩; gi_at_call 69; refine (callsIn_wide.2 (HR.out _)).mono ?_; rintro e u1 ⟨rfl, hb1⟩; obtain ⟨ha1, ha2, ha3, ha4, ha5⟩ := HUP.out u1 hb1) | (refine ⟨trivial, ?_⟩; gi_at_call 50; refine (callsIn_wide.2 (HQ.out _)).mono ?_; rintro e u0 ⟨rfl, hu0⟩; obtain rfl := hu0.symm) | (refine ⟨trivial, ?_⟩; gi_at_call 72; refine (callsIn_wide.2 (HX.out _ ha4 ha1)).mono ?_; rintro e u2 ⟨rfl, hb2⟩; have hb12 := hb1.trans (hb2.mono hb1.size); obtain ⟨hc1, hc2, hc3, hc4, hc5⟩ := HUP.out u2 hb12) | (refine ⟨trivial, ?_⟩; gi_at_call 70; refine (callsIn_wide.2 (HM.out _ hc3)).mono ?_; rintro e u3 ⟨rfl, hb3⟩; have hb13 := hb12.trans (hb3.mono hb12.size); obtain ⟨hd1, hd2, hd3, hd4, hd5⟩ := HUP.out u3 hb13))
            rw [HUJ.out] at hd5
            refine bodyPost_ret (results_none rfl _ _ _) rfl ?_
            exact ⟨⟨_, rfl⟩, .inl ⟨_, rfl, hd5⟩⟩
        · have HQ : Hid (∀ u, Calls Tryd.prog 50 #[.string r] u fun e w' => e = .returned (.bool false) ∧ w' = u) := fun u => by
            have := recI_any r u (by unfold maxLen; omega)
            rwa [decide_eq_false hr200] at this
          have hN : (seqL key text).length = k := HA.out.stop fun hN => by
            unfold NextL at hN
            rw [HT2.out] at hN
            exact hr200 hN.2.1
          have HUJ : Hid (upF (seqL key text).length k = List.finRange (seqL key text).length) := by
            show _ = _
            rw [← hN]; exact upF_all _
          have HUP : Hid (∀ u, Below wr.heap.size wr u → u.cell? ⟨W.heap.size, 0, none⟩ = some (.string key) ∧ u.cell? ⟨tb, 0, none⟩ = some (.string text) ∧ u.heap[g]? = some (.cells cs 5 mk) ∧ Below n₀ W u ∧ J (upF (seqL key text).length k) u) := fun u hu => ⟨(hu.cell (p := ⟨W.heap.size, 0, none⟩) hwlt).trans hg, (hu.cell (p := ⟨tb, 0, none⟩) htlt).trans htx, (hu.block g hglt).trans hblk, HB.out.trans (hu.mono (by have := HB.out.size; have := HW0.out.1; omega)), HJ.out _ _ _ HJk.out hu⟩
          clear HA HT2 HB hblk HJk HY HRow hN hj8
          gi_wp2_with (first | (refine ⟨trivial, ?_⟩; gi_at_call 69; refine (callsIn_wide.2 (HR.out _)).mono ?_; rintro e u1 ⟨rfl, hb1⟩; obtain ⟨ha1, ha2, ha3, ha4, ha5⟩ := HUP.out u1 hb1) | (refine ⟨trivial, ?_⟩; gi_at_call 50; refine (callsIn_wide.2 (HQ.out _)).mono ?_; rintro e u0 ⟨rfl, hu0⟩; obtain rfl := hu0.symm))
          rw [HUJ.out] at ha5
          refine bodyPost_ret (results_none rfl _ _ _) rfl ?_
          exact ⟨⟨_, rfl⟩, .inl ⟨_, rfl, ha5⟩⟩
      · have hev : errV cd = .iface 109 (.agg #[.int .i64 cd]) := if_neg hcd
        rw [hev] at HR
        have hN : (seqL key text).length = k := HA.out.stop fun hN => by
          unfold NextL at hN
          rw [HT2.out] at hN
          exact hcd hN.1
        have HUJ : Hid (upF (seqL key text).length k = List.finRange (seqL key text).length) := by
          show _ = _
          rw [← hN]; exact upF_all _
        have HUP : Hid (∀ u, Below wr.heap.size wr u → u.cell? ⟨W.heap.size, 0, none⟩ = some (.string key) ∧ u.cell? ⟨tb, 0, none⟩ = some (.string text) ∧ u.heap[g]? = some (.cells cs 5 mk) ∧ Below n₀ W u ∧ J (upF (seqL key text).length k) u) := fun u hu => ⟨(hu.cell (p := ⟨W.heap.size, 0, none⟩) hwlt).trans hg, (hu.cell (p := ⟨tb, 0, none⟩) htlt).trans htx, (hu.block g hglt).trans hblk, HB.out.trans (hu.mono (by have := HB.out.size; have := HW0.out.1; omega)), HJ.out _ _ _ HJk.out hu⟩
        clear HA HT2 HB hblk HJk HY HRow hN hev
        gi_wp2_with (refine ⟨trivial, ?_⟩; gi_at_call 69; refine (callsIn_wide.2 (HR.out _)).mono ?_; rintro e u1 ⟨rfl, hb1⟩; obtain ⟨ha1, ha2, ha3, ha4, ha5⟩ := HUP.out u1 hb1)
        refine ⟨trivial, ?_⟩
        gi_wp2
        rw [HUJ.out] at ha5
        refine bodyPost_ret (results_none rfl _ _ _) rfl ?_
        exact ⟨⟨_, rfl⟩, .inl ⟨_, rfl, ha5⟩⟩
    · obtain rfl : k = 60 := by omega
      have hN := HA.out.full
      have HUJ : Hid (upF (seqL key text).length 60 = List.finRange (seqL key text).length) := by
        show _ = _
        have := upF_all (seqL key text).length
        rwa [hN] at this ⊢
      have hJ := HJk.out
      rw [HUJ.out] at hJ
      clear HUJ hN HA HY HRow
      gi_wp2
      go_end0
      exact ⟨⟨_, rfl⟩, .inl hJ⟩
end Go.Proofs.YtcfekhahibklfaaDoor.li
