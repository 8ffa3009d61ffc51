/-
  The program's iterator over a log's records with their chains (chainedBy): its contract, for every loop body that keeps what lay below n0 and the first cell of each block from B on. Condition: the table of the rounds' numbers lies in its variable.
-/
import Derived.RangeFuncNested
import Derived.RangeFuncBound
import Derived.RangeFuncCalls
import Derived.RangeFuncLeaves
import Derived.Shelf.Abstract
import Derived.Shelf.RegionOpen
import Derived.WalkKit
import Derived.OwnWalkIn
import Derived.TacticsInMore
import Derived.LoopNIn
import Derived.LoopIn
import Derived.Test.YtcfekhahibklfaaDoorMg13
namespace Go.Proofs.YtcfekhahibklfaaDoor.li
open Go.ChangeShapes Go.WideShapes Go.ChangeAt Go.RowKit Go.Shelf
open Go.Proofs.YtcfekhahibklfaaDoor.wi (heap_lt calls_w wp_w)
open Go.Proofs.YtcfekhahibklfaaDoor.lg Go.Proofs.YtcfekhahibklfaaDoor.ss
open Go.Proofs.YtcfekhahibklfaaDoor.sh (macB macB_size Tab Tab.up Tab.below)
set_option linter.unusedVariables false
attribute [local go_sem] Oper.semAt_some

/-- what a round keeps -/
structure Kc (n₀ B : Nat) (W W' : World) : Prop where
  below : Below n₀ W W'
  first : ∀ k v, B ≤ k → W.cell? ⟨k, 0, none⟩ = some v → W'.cell? ⟨k, 0, none⟩ = some v
  bytes : ∀ k c m, B ≤ k → W.heap[k]? = some (.cells c 5 m) → W'.heap[k]? = some (.cells c 5 m)
theorem Kc.refl (n₀ B : Nat) (W : World) : Kc n₀ B W W := ⟨Below.refl _ _, fun _ _ _ h => h, fun _ _ _ _ h => h⟩
theorem Kc.trans {n₀ B : Nat} {X Y Z : World} (h : Kc n₀ B X Y) (k : Kc n₀ B Y Z) : Kc n₀ B X Z := ⟨h.below.trans k.below, fun i v hi hv => k.first i v hi (h.first i v hi hv), fun i c m hi hv => k.bytes i c m hi (h.bytes i c m hi hv)⟩
theorem Kc.up {n₀ B : Nat} {X Y : World} (h : Below X.heap.size X Y) (hn : n₀ ≤ X.heap.size) : Kc n₀ B X Y := ⟨h.mono hn, fun k v _ hv => (h.cell (p := ⟨k, 0, none⟩) (World.block_lt_of_cell? X _ hv)).trans hv, fun k c m _ hv => (h.block k (heap_lt hv)).trans hv⟩
theorem Kc.put {n₀ B : Nat} {W : World} {l : Nat} {o : Obj} (o' : Obj) (hl : n₀ ≤ l) (h : W.heap[l]? = some o) (ho : o.isCells = false) : Kc n₀ B W (W.putObj l o') := by
  refine ⟨(Below.refl n₀ W).grown (grownBy_putObj' W l o') (by have := heap_lt h; omega) (fun k e => by cases e; omega), fun k v _ hv => ?_, fun k c m _ hv => ?_⟩
  · exact (grownBy_putObj' W l o').cell hv (fun e => by
      obtain ⟨o2, h2, hc⟩ := cells_of_cell hv
      injection e with e
      rw [e, h] at h2; cases h2; rw [ho] at hc; cases hc)
  · refine ((grownBy_putObj' W l o').block k (heap_lt hv) (fun e => ?_)).trans hv
    injection e with e
    rw [e, h] at hv; cases hv; cases ho
/-- a record of the log with its chains -/
def enc3 (a b c : ByteArray) : Value := .agg #[.string a, .string b, .string c]
def encC (key : ByteArray) (l : List ByteArray) (k : Fin l.length) : Array Value := #[enc3 (l.getD k.1 ⟨#[]⟩) (chain macB key (l.take k.1)) (chain macB key (l.take (k.1 + 1)))]
def upF (n k : Nat) : List (Fin n) := (List.finRange n).take k
theorem upF_zero (n : Nat) : upF n 0 = [] := rfl
theorem upF_succ {n k : Nat} (h : k < n) : upF n (k + 1) = upF n k ++ [⟨k, h⟩] := by
  unfold upF
  rw [List.take_succ_eq_append_getElem (by simpa using h)]
  simp
theorem upF_length {n k : Nat} (h : k ≤ n) : (upF n k).length = k := by simp [upF]; omega
theorem upF_all (n : Nat) : upF n n = List.finRange n := by
  unfold upF; exact List.take_of_length_le (by simp)
theorem grown_up {W W' : World} (h : Below W.heap.size W W') : W.grownBy W' none := ⟨h.os, h.tape, h.output, h.size, fun k hk _ => h.block k hk⟩
theorem Abid.up {β : Type} {B : Nat} {J : β → World → Prop} (h : AbidesFrom B J) {s : β} {W W' : World} (hs : J s W) (hb : Below W.heap.size W W') : J s W' := h s W W' none hs (grown_up hb) (fun r e => by cases e)

set_option maxHeartbeats 8000000 in
set_option maxRecDepth 100000 in
theorem chained_stops (m n₀ B : Nat) (key : ByteArray) (l : List ByteArray) (kb rb b off cap : Nat) (w0 : World) (hm : 1 ≤ m) (hk : KeyL key) (h1 : ∀ r ∈ l, r.size ≤ 200) (h60 : l.length ≤ 60) (hT : Tab w0) (hTn : 0 < n₀) (hn : n₀ ≤ w0.heap.size) (hB : B ≤ w0.heap.size)
    (hkb : w0.cell? ⟨kb, 0, none⟩ = some (.string key)) (hrb : w0.cell? ⟨rb, 0, none⟩ = some (.slice (some ⟨b, off, none⟩) l.length cap)) (hb : b < n₀) (hR : Row w0 b off l) :
    SeqStopsK Fence.wide m Tryd.prog 64 #[.pointer (some ⟨kb, 0, none⟩), .pointer (some ⟨rb, 0, none⟩)] (encC key l) (Kc n₀ B) (fun xs => xs = List.finRange l.length) (fun _ => True) l.length w0 := by
  intro lp J Jx W hW hJ hJx hY h0
  have hTW : Tab W := hT.up hW
  have hkbW : W.cell? ⟨kb, 0, none⟩ = some (.string key) := (hW.cell (p := ⟨kb, 0, none⟩) (World.block_lt_of_cell? w0 _ hkb)).trans hkb
  have hrbW : W.cell? ⟨rb, 0, none⟩ = some (.slice (some ⟨b, off, none⟩) l.length cap) := (hW.cell (p := ⟨rb, 0, none⟩) (World.block_lt_of_cell? w0 _ hrb)).trans hrb
  have HRW : Hid (Row W b off l) := hR.below hW (by omega)
  have hWs := hW.size
  have HW0 : Hid (n₀ ≤ W.heap.size ∧ B ≤ W.heap.size) := ⟨by omega, by omega⟩
  have HT : Hid (∀ u, Below n₀ W u → Tab u) := fun u hu => hTW.below hu hTn
  have HRu : Hid (∀ u, Below n₀ W u → Row u b off l) := fun u hu => HRW.out.below hu hb
  obtain ⟨W2, hW2⟩ : ∃ W2, W2 = W.alloc (boxT key) := ⟨_, rfl⟩
  have hb2 : Below W.heap.size W W2 := by rw [hW2]; exact (Below.refl _ _).alloc (Nat.le_refl _) _
  have hg2 : W2.cell? ⟨W.heap.size, 0, none⟩ = some (.string key) := by rw [hW2]; simp [boxT]
  have hk2 : W2.cell? ⟨kb, 0, none⟩ = some (.string key) := (hb2.cell (p := ⟨kb, 0, none⟩) (World.block_lt_of_cell? W _ hkbW)).trans hkbW
  have HN : Hid (Calls Tryd.prog 51 #[.string key] W fun e w' => e = .returned (.func (.func 72) #[] #[.pointer (some ⟨W.heap.size, 0, none⟩)]) ∧ w' = W2) := by rw [hW2]; exact nextBy_any key W
  have HS : Hid (Calls Tryd.prog 18 #[.string key] W2 fun r w' => r = .returned (.string (chainS macB key)) ∧ Below W2.heap.size W2 w') := startI_any key W2 (by have := hk.2; unfold maxLen; omega) (hTW.up hb2)
  have H0 : Hid (J [] W2) := Abid.up hJ h0 hb2
  have HJ : Hid (∀ s u u', J s u → Below u.heap.size u u' → J s u') := fun s u u' h hb => Abid.up hJ h hb
  have HY : Hid (∀ (k : Nat) (hk : k < l.length) u, J (upF l.length k) u → YieldAt Fence.wide (m - 1) Tryd.prog lp #[enc3 (l.getD k ⟨#[]⟩) (chain macB key (l.take k)) (chain macB key (l.take (k + 1)))] u fun e W' =>
      (e = .returned (.bool true) ∧ J (upF l.length (k + 1)) W' ∧ Kc n₀ B u W') ∨ (e = .returned (.bool false) ∧ Jx (upF l.length (k + 1)) W')) := fun k hk u hu => by
    have h := hY (upF l.length k) ⟨k, hk⟩ u hu (by rw [upF_length (by omega)]; exact hk)
    rw [← upF_succ hk] at h
    exact h
  have HX : Hid (∀ (k : Nat) (hkl : k < l.length) u, Below n₀ W u → u.cell? ⟨W.heap.size, 0, none⟩ = some (.string key) → Calls Tryd.prog 72 #[.string (chain macB key (l.take k)), .string (l.getD k ⟨#[]⟩), .pointer (some ⟨W.heap.size, 0, none⟩)] u fun e w' => e = .returned (.string (chain macB key (l.take (k + 1)))) ∧ Below u.heap.size u w') := fun k hkl u hu hc => by
    have hr : (l.getD k ⟨#[]⟩).size ≤ 200 := by rw [getD_at hkl]; exact h1 _ (List.getElem_mem hkl)
    have hz : (chain macB key (l.take k)).size = 32 := chainF_size macB_size hk _ _ (chainS_size macB_size hk) (fun r hr => h1 r (List.mem_of_mem_take hr))
    have h := step_any key (chain macB key (l.take k)) (l.getD k ⟨#[]⟩) W.heap.size u (by have := hk.2; omega) (by omega) (HT.out u hu) hc
    have he : chain macB key (l.take (k + 1)) = macB key (chain macB key (l.take k) ++ l.getD k ⟨#[]⟩) := by
      rw [chain_step hkl, chainN_yes hk hz (by rw [← getD_at hkl]; exact hr), ← getD_at hkl]
    rw [he]; exact h
  have HE : Hid (chain macB key (l.take 0) = chainS macB key) := by show _ = _; rw [List.take_zero]; exact chain_nil
  obtain ⟨c0, hc0⟩ : ∃ c0, c0 = chainS macB key := ⟨_, rfl⟩
  rw [← hc0] at HS HE
  clear hY hJ hJx h1 hT hkb hrb hR hTW h0 hc0 hW2 hk
  refine callsIn_of_wp Tryd.func64 rfl trivial ?_ rfl
  simp only [Tryd.ntmps64, List.size_toArray, List.length_cons, List.length_nil, Nat.reduceAdd, Nat.reduceSub, Array.replicate_succ, Array.replicate_zero, List.push_toArray, List.append_toArray, List.nil_append, List.cons_append]
  gi_wp2_with (first | (refine ⟨trivial, ?_⟩; gi_at_call 51; refine (callsIn_wide.2 HN.out).mono ?_; rintro e w' ⟨rfl, hw'⟩; obtain rfl := hw'.symm) | (refine ⟨trivial, ?_⟩; gi_at_call 18; refine (callsIn_wide.2 HS.out).mono ?_; rintro e w3 ⟨rfl, hb3⟩; have hr3 : w3.cell? ⟨rb, 0, none⟩ = some (.slice (some ⟨b, off, none⟩) l.length cap) := (((hb2.trans (hb3.mono hb2.size)).cell (p := ⟨rb, 0, none⟩) (World.block_lt_of_cell? W _ hrbW)).trans hrbW)))
  have hB3 : Below W.heap.size W w3 := hb2.trans (hb3.mono hb2.size)
  have hg3 : w3.cell? ⟨W.heap.size, 0, none⟩ = some (.string key) := (hb3.cell (p := ⟨W.heap.size, 0, none⟩) (World.block_lt_of_cell? W2 _ hg2)).trans hg2
  have H3 : Hid (J (upF l.length 0) w3) := HJ.out [] W2 w3 H0.out hb3
  have HB3 : Hid (Below n₀ W w3) := hB3.mono HW0.out.1
  clear hr3 hb3 hg2 hk2 hb2 H0 HN HS hkbW hrbW hB3
  gi_loopw [5, 7, 8, 15] (fun a _ _ i u => ∃ k : Nat, k ≤ l.length ∧ i = .int .i64 k ∧ a = .string (chain macB key (l.take k)) ∧ Hid (Below n₀ W u) ∧ u.cell? ⟨W.heap.size, 0, none⟩ = some (.string key) ∧ Hid (J (upF l.length k) u)) (fun _ _ _ i _ => l.length - (intOf i).toNat)
  case atStart => exact ⟨0, Nat.zero_le _, rfl, by rw [HE.out], HB3, hg3, H3⟩
  case round =>
    obtain ⟨k, hk, rfl, rfl, HB, hg, HJk⟩ := hrel
    clear hg3 H3 HB3
    by_cases hlt : k < l.length
    · have c1 : wr.cell? ⟨b, off + k, none⟩ = some (.string (l.getD k ⟨#[]⟩)) := HRu.out wr HB.out k hlt
      have HXk := HX.out k hlt wr HB.out hg
      have HYk : Hid (∀ u, Below wr.heap.size wr u → YieldAt Fence.wide (m - 1) Tryd.prog lp #[enc3 (l.getD k ⟨#[]⟩) (chain macB key (l.take k)) (chain macB key (l.take (k + 1)))] u fun e W' =>
        (e = .returned (.bool true) ∧ J (upF l.length (k + 1)) W' ∧ Kc n₀ B u W') ∨ (e = .returned (.bool false) ∧ Jx (upF l.length (k + 1)) W')) := fun u hu => HY.out k hlt u (HJ.out _ _ _ HJk.out hu)
      obtain ⟨x, hx⟩ : ∃ x, x = l.getD k ⟨#[]⟩ := ⟨_, rfl⟩
      obtain ⟨c, hc⟩ : ∃ c, c = chain macB key (l.take k) := ⟨_, rfl⟩
      obtain ⟨d, hd⟩ : ∃ d, d = chain macB key (l.take (k + 1)) := ⟨_, rfl⟩
      have HD : Hid (d = chain macB key (l.take (k + 1))) := hd
      rw [← hx] at c1 HXk HYk
      rw [← hc, ← hd] at HXk HYk
      rw [← hc]
      have HXk' : Hid _ := HXk
      clear hx hc hd HX HY HXk
      gi_wp2_with (refine ⟨trivial, ?_⟩; gi_at_call 72; refine (callsIn_wide.2 HXk'.out).mono ?_; rintro e u1 ⟨rfl, hb1⟩; obtain ⟨fn, tmps, assign, body, hy, hR⟩ := HYk.out u1 hb1; unfold enc3 at hy; clear HXk')
      refine hR.mono ?_
      rintro e W3 (⟨rfl, hJ3, hk3⟩ | ⟨rfl, hJx3⟩)
      · have hg1 : u1.cell? ⟨W.heap.size, 0, none⟩ = some (.string key) := (hb1.cell (p := ⟨W.heap.size, 0, none⟩) (World.block_lt_of_cell? wr _ hg)).trans hg
        have hg3 := hk3.first W.heap.size _ HW0.out.2 hg1
        have HB' : Hid (Below n₀ W W3) := (HB.out.trans (hb1.mono (by have := HB.out.size; have := HW0.out.1; omega))).trans hk3.below
        clear hg1 hk3 hR hy
        gi_wp2
        exact ⟨⟨k + 1, by omega, by go_num, by rw [HD.out], HB', hg3, hJ3⟩, by simp [intOf]; omega⟩
      · gi_wp2
        refine bodyPost_ret (results_none rfl _ _ _) rfl ?_
        exact ⟨⟨_, rfl⟩, .inr ⟨_, trivial, hJx3⟩⟩
    · obtain rfl : k = l.length := by omega
      have hJ := HJk.out
      rw [upF_all] at hJ
      gi_wp2
      go_end0
      exact ⟨⟨_, rfl⟩, .inl ⟨_, rfl, hJ⟩⟩
set_option maxHeartbeats 8000000 in
set_option maxRecDepth 100000 in
theorem chained_none (m n₀ B : Nat) (key : ByteArray) (kb rb : Nat) (p : Option Addr) (cap : Nat) (w0 : World) (hm : 1 ≤ m) (hk : KeyL key) (hT : Tab w0)
    (hkb : w0.cell? ⟨kb, 0, none⟩ = some (.string key)) (hrb : w0.cell? ⟨rb, 0, none⟩ = some (.slice p 0 cap)) :
    SeqStopsK Fence.wide m Tryd.prog 64 #[.pointer (some ⟨kb, 0, none⟩), .pointer (some ⟨rb, 0, none⟩)] (encC key []) (Kc n₀ B) (fun xs => xs = List.finRange ([] : List ByteArray).length) (fun _ => True) ([] : List ByteArray).length w0 := by
  intro lp J Jx W hW hJ hJx hY h0
  have hTW : Tab W := hT.up hW
  have hkbW : W.cell? ⟨kb, 0, none⟩ = some (.string key) := (hW.cell (p := ⟨kb, 0, none⟩) (World.block_lt_of_cell? w0 _ hkb)).trans hkb
  have hrbW : W.cell? ⟨rb, 0, none⟩ = some (.slice p 0 cap) := (hW.cell (p := ⟨rb, 0, none⟩) (World.block_lt_of_cell? w0 _ hrb)).trans hrb
  obtain ⟨W2, hW2⟩ : ∃ W2, W2 = W.alloc (boxT key) := ⟨_, rfl⟩
  have hb2 : Below W.heap.size W W2 := by rw [hW2]; exact (Below.refl _ _).alloc (Nat.le_refl _) _
  have hk2 : W2.cell? ⟨kb, 0, none⟩ = some (.string key) := (hb2.cell (p := ⟨kb, 0, none⟩) (World.block_lt_of_cell? W _ hkbW)).trans hkbW
  have HN : Hid (Calls Tryd.prog 51 #[.string key] W fun e w' => e = .returned (.func (.func 72) #[] #[.pointer (some ⟨W.heap.size, 0, none⟩)]) ∧ w' = W2) := by rw [hW2]; exact nextBy_any key W
  have HS : Hid (Calls Tryd.prog 18 #[.string key] W2 fun r w' => r = .returned (.string (chainS macB key)) ∧ Below W2.heap.size W2 w') := startI_any key W2 (by have := hk.2; unfold maxLen; omega) (hTW.up hb2)
  have HJ : Hid (∀ u', Below W.heap.size W u' → J [] u') := fun u' hb => Abid.up hJ h0 hb
  obtain ⟨c0, hc0⟩ : ∃ c0, c0 = chainS macB key := ⟨_, rfl⟩
  rw [← hc0] at HS
  clear hY hJ hJx hT hkb hrb hTW h0 hc0 hW2 hk
  refine callsIn_of_wp Tryd.func64 rfl trivial ?_ rfl
  simp only [Tryd.ntmps64, List.size_toArray, List.length_cons, List.length_nil, Nat.reduceAdd, Nat.reduceSub, Array.replicate_succ, Array.replicate_zero, List.push_toArray, List.append_toArray, List.nil_append, List.cons_append]
  gi_wp2_with (first | (refine ⟨trivial, ?_⟩; gi_at_call 51; refine (callsIn_wide.2 HN.out).mono ?_; rintro e w' ⟨rfl, hw'⟩; obtain rfl := hw'.symm) | (refine ⟨trivial, ?_⟩; gi_at_call 18; refine (callsIn_wide.2 HS.out).mono ?_; rintro e w3 ⟨rfl, hb3⟩; have hr3 : w3.cell? ⟨rb, 0, none⟩ = some (.slice p 0 cap) := (((hb2.trans (hb3.mono hb2.size)).cell (p := ⟨rb, 0, none⟩) (World.block_lt_of_cell? W _ hrbW)).trans hrbW)))
  have HB3 : Hid (J [] w3) := HJ.out w3 (hb2.trans (hb3.mono hb2.size))
  clear hr3 hb3 hk2 hb2 HN HS hkbW hrbW HJ
  gi_loopw [5, 7, 8, 15] (fun _ _ _ i u => i = .int .i64 0 ∧ Hid (J [] u)) (fun _ _ _ i _ => 0)
  case atStart => exact ⟨rfl, HB3⟩
  case round =>
    obtain ⟨rfl, hJ⟩ := hrel
    gi_wp2
    go_end0
    exact ⟨⟨_, rfl⟩, .inl ⟨_, rfl, hJ⟩⟩
/-- a slice of texts whose row lies below a number -/
def SlN (n₀ : Nat) (w : World) (v : Value) (l : List ByteArray) : Prop := (∃ p cap, l = [] ∧ v = .slice p 0 cap) ∨ ∃ b off cap, b < n₀ ∧ v = .slice (some ⟨b, off, none⟩) l.length cap ∧ Row w b off l
theorem SlN.of {w : World} {v : Value} {l : List ByteArray} (h : SliceIs w v l) : SlN w.heap.size w v l := h
theorem SlN.below {n₀ : Nat} {w u : World} {v : Value} {l : List ByteArray} (h : SlN n₀ w v l) (hb : Below n₀ w u) : SlN n₀ u v l := by
  rcases h with h | ⟨b, off, cap, h1, h2, h3⟩
  · exact .inl h
  · exact .inr ⟨b, off, cap, h1, h2, h3.below hb h1⟩
theorem chained_any (m n₀ B : Nat) (key : ByteArray) (l : List ByteArray) (v : Value) (kb rb : Nat) (w0 : World) (hm : 1 ≤ m) (hk : KeyL key) (h1 : ∀ r ∈ l, r.size ≤ 200) (h60 : l.length ≤ 60) (hT : Tab w0) (hTn : 0 < n₀) (hn : n₀ ≤ w0.heap.size) (hB : B ≤ w0.heap.size)
    (hkb : w0.cell? ⟨kb, 0, none⟩ = some (.string key)) (hrb : w0.cell? ⟨rb, 0, none⟩ = some v) (hv : SlN n₀ w0 v l) :
    SeqStopsK Fence.wide m Tryd.prog 64 #[.pointer (some ⟨kb, 0, none⟩), .pointer (some ⟨rb, 0, none⟩)] (encC key l) (Kc n₀ B) (fun xs => xs = List.finRange l.length) (fun _ => True) l.length w0 := by
  rcases hv with ⟨p, cap, rfl, rfl⟩ | ⟨b, off, cap, hb, rfl, hR⟩
  · exact chained_none m n₀ B key kb rb p cap w0 hm hk hT hkb hrb
  · exact chained_stops m n₀ B key l kb rb b off cap w0 hm hk h1 h60 hT hTn hn hB hkb hrb hb hR
end Go.Proofs.YtcfekhahibklfaaDoor.li
