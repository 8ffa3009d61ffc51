/-
  The rule that a line is, as the program reads it. No condition.
-/
import Derived.Test.YtndjjhcdnlkekaaDoorCu4
import Derived.Test.YtndjjhcdnlkekaaDoorPt1
import Derived.Deep.RegionHeld3
import Derived.Laws.ResultCell
import Derived.Laws.Rows
import Derived.OrdersHeld
import Derived.Deep.RegionWith
namespace Go.Proofs.YtndjjhcdnlkekaaDoor.cu
open Go.ChangeShapes Go.WideShapes Go.ChangeAt Go.RowKit
open Go.Proofs.YtndjjhcdnlkekaaDoor.gb (bat bat_eq GlobR)
open Go.Proofs.YtndjjhcdnlkekaaDoor.rl
open Go.Proofs.YtndjjhcdnlkekaaDoor.wi (heap_lt calls_w wp_w)
open Go.Proofs.YtndjjhcdnlkekaaDoor.jo (joinB joined1 joined_any joined2 total)
open Classical
set_option linter.unusedVariables false

theorem joined1_at' (s : ByteArray) (g : Nat) (u : World) (h : rw.At u g #[.string s] 9) (hs : s.size ≤ 1099511627776) :
    Calls Tryd.prog 38 #[.slice (some ⟨g, 0, none⟩) 1 1] u fun e w' => e = .returned (.string s) ∧ Below u.heap.size u w' := by
  refine (jo.joined_any [s] g 1 u h.lt (by simp) (by rw [jo.total_one]; omega) (fun i hi => ?_)).mono ?_
  · match i, hi with
    | 0, _ => exact h.cell 0
  · rintro e w' ⟨rfl, hb⟩
    rw [jo.joinB_one]
    exact ⟨rfl, hb⟩
/-- a line being read: the answer's block -/
def InI (w w1 u : World) : Prop := rw.Bel w u ∧ rw.At u w.heap.size #[.int .i64 0, .int .i64 0, .string ⟨#[]⟩, .string ⟨#[]⟩] 26 ∧ Below w1.heap.size w1 u
theorem InI.up {w w1 u u' : World} (h : InI w w1 u) (hb : Below u.heap.size u u') : InI w w1 u' := ⟨h.1.up hb, h.2.1.up hb, h.2.2.trans (hb.mono h.2.2.size)⟩
/-- and what the ruling tells -/
def InQ (w w1 : World) (q : Nat) (A B : Int) (u : World) : Prop := (InI w w1 u ∧ w.heap.size < q ∧ w1.heap.size ≤ q) ∧ rw.At u q #[.int .i64 A, .int .i64 B] 45
theorem InQ.up {w w1 u u' : World} {q : Nat} {A B : Int} (h : InQ w w1 q A B u) (hb : Below u.heap.size u u') : InQ w w1 q A B u' := ⟨⟨h.1.1.up hb, h.1.2⟩, h.2.up hb⟩
theorem InQ.new {w w1 u : World} {A B : Int} (h : InI w w1 u) : InQ w w1 u.heap.size A B (u.alloc (.cells #[.int .i64 A, .int .i64 B] 45)) :=
  ⟨⟨h.up (rw.up_alloc _ _), h.2.1.lt, h.2.2.size⟩, rw.At.new u _ _⟩
theorem InQ.set {w w1 u : World} {q p : Nat} {A B : Int} (h : InQ w w1 q A B u) (hp : q < p) (k : Nat) (x : Value) : InQ w w1 q A B (u.setCell ⟨p, k, none⟩ x) := by
  have h1 : w.heap.size ≤ p := by have := h.1.2.1; omega
  have h2 : w1.heap.size ≤ p := by have := h.1.2.2; omega
  have h3 : w.heap.size ≠ p := by have := h.1.2.1; omega
  have h4 : q ≠ p := by omega
  exact ⟨⟨⟨(show Below w.heap.size w u from h.1.1.1).setCell h1 _, h.1.1.2.1.far h3 _ _, h.1.1.2.2.setCell h2 _⟩, h.1.2⟩, h.2.far h4 _ _⟩
/-- the rule is made, in a block of its own -/
def InF (w : World) (p : Nat) (A B : Int) (x y : ByteArray) (u : World) : Prop := (rw.Bel w u ∧ w.heap.size < p) ∧ rw.At u w.heap.size #[.int .i64 0, .int .i64 0, .string ⟨#[]⟩, .string ⟨#[]⟩] 26 ∧ rw.At u p #[.int .i64 A, .int .i64 B, .string x, .string y] 26
theorem InF.up {w u u' : World} {p : Nat} {A B : Int} {x y : ByteArray} (h : InF w p A B x y u) (hb : Below u.heap.size u u') : InF w p A B x y u' := ⟨⟨h.1.1.up hb, h.1.2⟩, h.2.1.up hb, h.2.2.up hb⟩
/-- and told -/
def told (u : World) (q : Nat) (A B : Int) (x y : ByteArray) : World := (((u.setCell ⟨q, 0, none⟩ (.int .i64 A)).setCell ⟨q, 1, none⟩ (.int .i64 B)).setCell ⟨q, 2, none⟩ (.string x)).setCell ⟨q, 3, none⟩ (.string y)
def InG (w : World) (p : Nat) (A B : Int) (x y : ByteArray) (u : World) : Prop := Below w.heap.size w u ∧ rw.At u w.heap.size #[.int .i64 A, .int .i64 B, .string x, .string y] 26 ∧ rw.At u p #[.int .i64 A, .int .i64 B, .string x, .string y] 26
theorem InF.fin {w u : World} {p : Nat} {A B : Int} {x y : ByteArray} (h : InF w p A B x y u) : InG w p A B x y (told u w.heap.size A B x y) := by
  have hp : p ≠ w.heap.size := by have := h.1.2; omega
  exact ⟨((((show Below w.heap.size w u from h.1.1).setCell (Nat.le_refl _) _).setCell (Nat.le_refl _) _).setCell (Nat.le_refl _) _).setCell (Nat.le_refl _) _, (((h.2.1.set 0 _).set 1 _).set 2 _).set 3 _, (((h.2.2.far hp _ _).far hp _ _).far hp _ _).far hp _ _⟩
theorem InI.zero {w w1 u : World} (h : InI w w1 u) : Below w.heap.size w (told u w.heap.size 0 0 ⟨#[]⟩ ⟨#[]⟩) ∧ rw.At (told u w.heap.size 0 0 ⟨#[]⟩ ⟨#[]⟩) w.heap.size #[.int .i64 0, .int .i64 0, .string ⟨#[]⟩, .string ⟨#[]⟩] 26 :=
  ⟨((((show Below w.heap.size w u from h.1).setCell (Nat.le_refl _) _).setCell (Nat.le_refl _) _).setCell (Nat.le_refl _) _).setCell (Nat.le_refl _) _, (((h.2.1.set 0 _).set 1 _).set 2 _).set 3 _⟩
theorem res_rule {fn : Func} {p k : Tmp} (h : fn.results = #[.cell p 26, .tmp k]) (tmps : Array Value) (u : World) (q : Nat) (cs : Array Value) (x : Value) (hp : tmps.getD p undef = .pointer (some ⟨q, 0, none⟩)) (hk : tmps.getD k undef = x) (hg : u.heap[q]? = some (.cells cs 26 (0, 0))) (hcs : cs.size = 4) :
    (results fn tmps).run Tryd.prog u = .ok (.tuple #[.agg cs, x]) u := by
  rw [results_cell_tmp h, hp, hk]
  simp [asAddr, Result.andThen, run_loadVar_row u q _ 26 cs (0, 0) _ hg Tryd.underlying26 rfl (by rw [infoIR, hcs])]
def SayPost (t : ByteArray) (w : World) (e : Ending) (w' : World) : Prop := (∃ x b, e = .returned (.tuple #[.agg #[.int .i64 x.1, .int .i64 x.2.1, .string x.2.2.1, .string x.2.2.2], .bool b]) ∧ LineIs t x b) ∧ Below w.heap.size w w'
set_option maxRecDepth 20000 in
set_option maxHeartbeats 8000000 in
theorem ruleIn_any (t : ByteArray) (w : World) (ht : t.size ≤ 8000) :
    Calls Tryd.prog 43 #[.string t] w (SayPost t w) := by
  have htm : t.size ≤ maxLen := by unfold maxLen; omega
  have HI0 : Hid (rw.Bel w (w.alloc (.cells #[.int .i64 0, .int .i64 0, .string ⟨#[]⟩, .string ⟨#[]⟩] 26)) ∧ rw.At (w.alloc (.cells #[.int .i64 0, .int .i64 0, .string ⟨#[]⟩, .string ⟨#[]⟩] 26)) w.heap.size #[.int .i64 0, .int .i64 0, .string ⟨#[]⟩, .string ⟨#[]⟩] 26) := ⟨(Below.refl _ _).alloc (Nat.le_refl _) _, rw.At.new _ _ _⟩
  go_enter Tryd.func43, Tryd.ntmps43
  go_wp2_with (go_at_call 51; fail)
  refine calls_w (fun u1 => rw.Bel w u1 ∧ rw.At u1 w.heap.size #[.int .i64 0, .int .i64 0, .string ⟨#[]⟩, .string ⟨#[]⟩] 26) HI0.out ?_
  clear HI0
  rintro u0 ⟨i0, a0⟩
  refine (rulings_any u0).mono ?_
  rintro e w1 ⟨b, c, rfl, hb1, hb2, hc, hbel⟩
  have HC : Hid (∀ u1, Below w1.heap.size w1 u1 → ∀ j, j < 5 → u1.cell? ⟨b, j, none⟩ = rulV[j]?) := fun u1 hu j hj => (hu.cell (p := ⟨b, j, none⟩) hb2).trans (hc j hj)
  have i1 : Hid (InI w w1 w1) := ⟨i0.up hbel, a0.up hbel, Below.refl _ _⟩
  clear i0 a0 hbel hc hb1 hb2
  go_wp2_with fail
  go_loopw [15] (fun i u1 => ∃ j : Nat, j ≤ 5 ∧ i = .int .i64 j ∧ Hid (∀ j', j' < j → ¬ Beg t (verA j') (verB j')) ∧ Hid (InI w w1 u1)) (fun i _ => 5 - (intOf i).toNat)
  case atStart => exact ⟨0, Nat.zero_le _, rfl, fun j' h => by omega, i1⟩
  case round =>
    clear i1
    obtain ⟨j, hj, rfl, HN, HU⟩ := hrel
    by_cases hlt : j < 5
    · have hj5 : (j : Int) < 5 := by omega
      have cx := HC.out _ HU.out.2.2 j hlt
      obtain ⟨T, v, F, hx, hK, hmet, hent, hws, hv⟩ := says_at hlt
      rw [hx] at cx
      obtain ⟨A, hA⟩ : ∃ A, A = verA j := ⟨_, rfl⟩
      obtain ⟨B, hB⟩ : ∃ B, B = verB j := ⟨_, rfl⟩
      have HN2 : Hid (¬ Beg t A B → ∀ j', j' < j + 1 → ¬ Beg t (verA j') (verB j')) := fun h j' h' => by
        by_cases e : j' = j
        · rw [e, ← hA, ← hB]; exact h
        · exact HN.out j' (by omega)
      rw [← hA, ← hB] at hK hws hv
      have HK : Hid (Known A B) := hK
      clear hA hB hx hK HN
      have hP : (wordB A B ++ one 32).size ≤ 20 := by rw [ByteArray.size_append]; have := @wordB_size A B; have e : (one 32).size = 1 := rfl; omega
      have hw7 : (wordB A B).size + (one 32).size ≤ 1099511627776 := by rw [← ByteArray.size_append]; omega
      have hjo := fun u => joined2 (wordB A B) (one 32) u hw7
      obtain ⟨W, hW⟩ : ∃ W, W = wordB A B := ⟨_, rfl⟩
      by_cases hb : Beg t A B
      · obtain ⟨r, hr⟩ := hb
        have hcp := fun u => cutp_yes hr u htm hP
        have hrz : r.size ≤ 8000 := by rw [hr] at ht; simp at ht; omega
        have HR : Hid (t = wordB A B ++ one 32 ++ r) := hr
        rw [← hW] at hjo hcp hws
        obtain ⟨P, hPP⟩ : ∃ P, P = W ++ one 32 := ⟨_, rfl⟩
        rw [← hPP] at hjo hcp
        unfold one at hjo
        clear hP hw7 hr hPP HN2 htm hW
        have i : InI w w1 wr := HU.out
        clear HU
        go_wp2_with (first | ((with_reducible refine (hws _).mono ?_); rintro r7 ua ⟨rfl, hb⟩; replace i := i.up hb; clear hb) | (go_at_call 38; (with_reducible refine (hjo _).mono ?_); rintro r7 ub ⟨rfl, hb⟩; replace i := i.up hb; clear hb) | (go_at_call 61; (with_reducible refine (hcp _).mono ?_); rintro r7 uz ⟨rfl, hb⟩; obtain rfl := hb.symm) | (go_at_call 49; (with_reducible refine (hv _).mono ?_); rintro r7 uc ⟨rfl, hb⟩; replace i := i.up hb; clear hb) | (go_at_call 42; fail))
        refine calls_w (InQ w w1 uc.heap.size A B) (InQ.new i) ?_
        obtain ⟨q, hq⟩ : ∃ q, q = uc.heap.size := ⟨_, rfl⟩
        rw [← hq]
        clear hq i hv hmet hent hws hjo hcp cx
        intro vv2 i
        refine (cut_any r 32 vv2 (by unfold maxLen; omega)).mono ?_
        rintro r7 vv3 ⟨hcu, hb⟩
        obtain ⟨x8, y8, f8, rfl, hcu, hx8, hy8⟩ := hcu.at
        have HL : Hid (LineIs t (A, B, x8, y8) (decide (RuleR A B x8 y8))) := line_is HK.out HR.out hcu
        replace i := i.up hb
        clear hb hcu HK HR HC
        go_wp2_with fail
        rename_i K8 hK8
        have hx7 : x8.size ≤ 1099511627776 := by omega
        have hy7 : y8.size ≤ 1099511627776 := by omega
        have hx9 : x8.size ≤ maxLen := by unfold maxLen; omega
        have hy9 : y8.size ≤ maxLen := by unfold maxLen; omega
        clear hcu hx8 hy8
        have KEY : Hid (∀ (p g5 g8 : Nat) (u : World), InF w p A B x8 y8 u → K8 { tmps := #[Value.string t, undef, Value.pointer (some { block := w.heap.size, off := 0 }), u3, undef, Value.iface T v, Value.string r, Value.bool true, Value.pointer (some { block := q, off := 0 }), Value.string x8, Value.string y8, Value.bool f8, Value.pointer (some { block := p, off := 0 }), Value.slice (some { block := b, off := 0 }) 5 c, Value.int IntKind.i64 5, Value.int IntKind.i64 ↑j, Value.bool true, Value.pointer (some { block := b, off := j }), Value.iface T v, Value.tuple #[Value.string r, Value.bool true], Value.string t, Value.iface T v, Value.string W, Value.slice (some { block := ua.heap.size, off := 0 }) 2 2, Value.string P, Value.tuple #[Value.string r, Value.bool true], Value.string r, Value.bool true, Value.bool true, Value.iface T v, Value.agg #[Value.int IntKind.i64 A, Value.int IntKind.i64 B], Value.tuple #[Value.string x8, Value.string y8, Value.bool f8], Value.string r, Value.tuple #[Value.string x8, Value.string y8, Value.bool f8], Value.string x8, Value.string y8, Value.bool f8, Value.pointer (some { block := q, off := 0 }), Value.int IntKind.i64 A, Value.pointer (some { block := q, off := 1 }), Value.int IntKind.i64 B, Value.string x8, Value.slice (some { block := g5, off := 0 }) 1 1, Value.string x8, Value.string y8, Value.slice (some { block := g8, off := 0 }) 1 1, Value.string y8, Value.agg #[Value.int IntKind.i64 A, Value.int IntKind.i64 B, Value.string x8, Value.string y8], u48, u49, u50, u51, undef], defers := [] } u) := by
          clear i
          intro p g5 g8 u i0
          have HI8 : Hid (InF w p A B x8 y8 u) := i0
          clear i0
          have HS : Hid (∀ u, InF w p A B x8 y8 u → (u.cell? ⟨p, 0, none⟩ = some (.int .i64 A) ∧ u.cell? ⟨p, 1, none⟩ = some (.int .i64 B) ∧ u.cell? ⟨p, 2, none⟩ = some (.string x8) ∧ u.cell? ⟨p, 3, none⟩ = some (.string y8))) := fun u h => ⟨h.2.2.cell 0, h.2.2.cell 1, h.2.2.cell 2, h.2.2.cell 3⟩
          refine hK8 _ _ ?_
          clear hK8
          go_wp2_with fail
          have i := HI8.out
          clear HI8
          refine wp_region_noPanic ?_
          refine wp_region_held_drew (S := fun u => u.cell? ⟨p, 0, none⟩ = some (.int .i64 A) ∧ u.cell? ⟨p, 1, none⟩ = some (.int .i64 B) ∧ u.cell? ⟨p, 2, none⟩ = some (.string x8) ∧ u.cell? ⟨p, 3, none⟩ = some (.string y8)) (by kernel_rfl) (HS.out _ (i.up (rw.up_drew _))) (fun _ => ?_)
          refine rw.region_w (fun u => InF w p A B x8 y8 u) (i.up (rw.up_drew _)) ?_
          clear i
          intro u i
          have hHeld : (u.cell? ⟨p, 0, none⟩ = some (.int .i64 A) ∧ u.cell? ⟨p, 1, none⟩ = some (.int .i64 B) ∧ u.cell? ⟨p, 2, none⟩ = some (.string x8) ∧ u.cell? ⟨p, 3, none⟩ = some (.string y8)) := HS.out u i
          refine wpAnyH_take (i := 0) (oi := { dst := some 48, op := Op.load 26 (Operand.tmp 12), type := 26, pos := "l08_policy.go:152", after := #[], guard := none }) (v := ?_) rfl (by kernel_rfl) (by kernel_rfl) (by kernel_rfl) (fun _ _ _ h => h) (Or.inl ⟨by rfl, ?_⟩) hHeld ?_
          rotate_left
          · rintro w ⟨z0, z1, z2, z3⟩; go_simp; (try with_reducible rfl)
          try simp only [Act.put, List.setIfInBounds_toArray, List.set_cons_zero, List.set_cons_succ]
          refine wpAnyH_take (i := 1) (oi := { dst := some 49, op := Op.load 26 (Operand.tmp 12), type := 26, pos := "l08_policy.go:152", after := #[], guard := none }) (v := ?_) rfl (by kernel_rfl) (by kernel_rfl) (by kernel_rfl) (fun _ _ _ h => h) (Or.inl ⟨by rfl, ?_⟩) hHeld ?_
          rotate_left
          · rintro w ⟨z0, z1, z2, z3⟩; go_simp; (try with_reducible rfl)
          try simp only [Act.put, List.setIfInBounds_toArray, List.set_cons_zero, List.set_cons_succ]
          refine wpAnyH_ready (rs := [2]) (by kernel_rfl) (by simp) ?_
          refine AllReadyH.cons rfl (fun K hK => ?_) AllReadyH.nil
          go_simp
          go_at_call 12
          refine (ruleI_any A B x8 y8 u hx9 hy9).mono ?_
          rintro r7 w7 ⟨rfl, hb⟩
          go_wp2_with fail
          refine hK.out _ _ (HS.out _ (i.up hb)) (fun _ => ?_)
          clear hK K hHeld
          try simp only [Act.put, List.setIfInBounds_toArray, List.set_cons_zero, List.set_cons_succ]
          refine rw.region_w (fun u => InF w p A B x8 y8 u) (i.up hb) ?_
          clear i hb
          intro u i
          have hHeld : (u.cell? ⟨p, 0, none⟩ = some (.int .i64 A) ∧ u.cell? ⟨p, 1, none⟩ = some (.int .i64 B) ∧ u.cell? ⟨p, 2, none⟩ = some (.string x8) ∧ u.cell? ⟨p, 3, none⟩ = some (.string y8)) := HS.out u i
          refine wpAnyH_ready (rs := [3]) (by kernel_rfl) (by simp) ?_
          refine AllReadyH.cons rfl (fun K hK => ?_) AllReadyH.nil
          have c0 : u.cell? ⟨w.heap.size, 0, none⟩ = some (.int .i64 0) := i.2.1.cell 0
          have c1 : u.cell? ⟨w.heap.size, 1, none⟩ = some (.int .i64 0) := i.2.1.cell 1
          have c2 : u.cell? ⟨w.heap.size, 2, none⟩ = some (.string ⟨#[]⟩) := i.2.1.cell 2
          have c3 : u.cell? ⟨w.heap.size, 3, none⟩ = some (.string ⟨#[]⟩) := i.2.1.cell 3
          have f0 := fun k => i.2.1.frozen k
          have HG : Hid (InG w p A B x8 y8 (told u w.heap.size A B x8 y8)) := i.fin
          clear i hHeld
          go_simp
          refine hK.out _ _ ⟨HG.out.2.2.cell 0, HG.out.2.2.cell 1, HG.out.2.2.cell 2, HG.out.2.2.cell 3⟩ (fun _ => ?_)
          clear hK K c0 c1 c2 c3 f0
          try simp only [Act.put, List.setIfInBounds_toArray, List.set_cons_zero, List.set_cons_succ]
          refine rw.region_w (fun u => InG w p A B x8 y8 u) HG.out ?_
          clear HG
          intro u i
          have hHeld : (u.cell? ⟨p, 0, none⟩ = some (.int .i64 A) ∧ u.cell? ⟨p, 1, none⟩ = some (.int .i64 B) ∧ u.cell? ⟨p, 2, none⟩ = some (.string x8) ∧ u.cell? ⟨p, 3, none⟩ = some (.string y8)) := ⟨i.2.2.cell 0, i.2.2.cell 1, i.2.2.cell 2, i.2.2.cell 3⟩
          refine wpAnyH_take (i := 4) (oi := { dst := some 3, op := Op.assign (Operand.tmp 50), type := 4, pos := "l08_policy.go:152", after := #[{ on := 2, ground := Ground.data }, { on := 3, ground := Ground.chain }, { on := 0, ground := Ground.phase }, { on := 1, ground := Ground.phase }, { on := 2, ground := Ground.phase }, { on := 3, ground := Ground.phase }], guard := none }) (v := ?_) rfl (by kernel_rfl) (by kernel_rfl) (by kernel_rfl) (fun _ _ _ h => h) (Or.inl ⟨by rfl, ?_⟩) hHeld ?_
          rotate_left
          · rintro w ⟨z0, z1, z2, z3⟩; go_simp; (try with_reducible rfl)
          try simp only [Act.put, List.setIfInBounds_toArray, List.set_cons_zero, List.set_cons_succ]
          refine wpAnyH_done (by kernel_rfl) ?_ _
          refine NoPanic.normal ?_
          obtain ⟨d1, d2, d3⟩ := i
          clear hHeld d3
          go_wp2
          exact bodyPost_ret (res_rule Tryd.results43 _ _ w.heap.size _ _ rfl rfl d2 rfl) rfl ⟨⟨(A, B, x8, y8), _, rfl, HL.out⟩, d1⟩
        clear hK8 HL hx9 hy9
        have HS : Hid (∀ u, InQ w w1 q A B u → (u.cell? ⟨q, 0, none⟩ = some (.int .i64 A) ∧ u.cell? ⟨q, 1, none⟩ = some (.int .i64 B))) := fun u h => ⟨h.2.cell 0, h.2.cell 1⟩
        refine wp_region_noPanic ?_
        refine wp_region_held_drew (S := fun u => u.cell? ⟨q, 0, none⟩ = some (.int .i64 A) ∧ u.cell? ⟨q, 1, none⟩ = some (.int .i64 B)) (by kernel_rfl) (HS.out _ (i.up (rw.up_drew _))) (fun _ => ?_)
        refine rw.region_w (fun u => InQ w w1 q A B u) (i.up (rw.up_drew _)) ?_
        clear i
        intro u i
        have hHeld : (u.cell? ⟨q, 0, none⟩ = some (.int .i64 A) ∧ u.cell? ⟨q, 1, none⟩ = some (.int .i64 B)) := HS.out u i
        refine wpAnyH_take (i := 0) (oi := { dst := some 37, op := Op.fieldAddr 45 (Operand.tmp 8) 0, type := 0, pos := "l08_policy.go:151", after := #[], guard := none }) (v := ?_) rfl (by kernel_rfl) (by kernel_rfl) (by kernel_rfl) (fun _ _ _ h => h) (Or.inl ⟨by rfl, ?_⟩) hHeld ?_
        rotate_left
        · rintro w ⟨z0, z1⟩; go_simp; (try with_reducible rfl)
        try simp only [Act.put, List.setIfInBounds_toArray, List.set_cons_zero, List.set_cons_succ]
        refine wpAnyH_take (i := 1) (oi := { dst := some 38, op := Op.load 2 (Operand.tmp 37), type := 2, pos := "l08_policy.go:151", after := #[{ on := 0, ground := Ground.data }], guard := none }) (v := ?_) rfl (by kernel_rfl) (by kernel_rfl) (by kernel_rfl) (fun _ _ _ h => h) (Or.inl ⟨by rfl, ?_⟩) hHeld ?_
        rotate_left
        · rintro w ⟨z0, z1⟩; go_simp; (try with_reducible rfl)
        try simp only [Act.put, List.setIfInBounds_toArray, List.set_cons_zero, List.set_cons_succ]
        refine wpAnyH_take (i := 2) (oi := { dst := some 39, op := Op.fieldAddr 45 (Operand.tmp 8) 1, type := 0, pos := "l08_policy.go:151", after := #[], guard := none }) (v := ?_) rfl (by kernel_rfl) (by kernel_rfl) (by kernel_rfl) (fun _ _ _ h => h) (Or.inl ⟨by rfl, ?_⟩) hHeld ?_
        rotate_left
        · rintro w ⟨z0, z1⟩; go_simp; (try with_reducible rfl)
        try simp only [Act.put, List.setIfInBounds_toArray, List.set_cons_zero, List.set_cons_succ]
        refine wpAnyH_take (i := 3) (oi := { dst := some 40, op := Op.load 2 (Operand.tmp 39), type := 2, pos := "l08_policy.go:151", after := #[{ on := 2, ground := Ground.data }], guard := none }) (v := ?_) rfl (by kernel_rfl) (by kernel_rfl) (by kernel_rfl) (fun _ _ _ h => h) (Or.inl ⟨by rfl, ?_⟩) hHeld ?_
        rotate_left
        · rintro w ⟨z0, z1⟩; go_simp; (try with_reducible rfl)
        try simp only [Act.put, List.setIfInBounds_toArray, List.set_cons_zero, List.set_cons_succ]
        refine wpAnyH_take (i := 4) (oi := { dst := some 41, op := Op.move (Operand.tmp 9), type := 9, pos := "l08_policy.go:151", after := #[], guard := none }) (v := ?_) rfl (by kernel_rfl) (by kernel_rfl) (by kernel_rfl) (fun _ _ _ h => h) (Or.inl ⟨by rfl, ?_⟩) hHeld ?_
        rotate_left
        · rintro w ⟨z0, z1⟩; go_simp; (try with_reducible rfl)
        try simp only [Act.put, List.setIfInBounds_toArray, List.set_cons_zero, List.set_cons_succ]
        refine wpAnyH_take (i := 7) (oi := { dst := some 44, op := Op.move (Operand.tmp 10), type := 9, pos := "l08_policy.go:151", after := #[], guard := none }) (v := ?_) rfl (by kernel_rfl) (by kernel_rfl) (by kernel_rfl) (fun _ _ _ h => h) (Or.inl ⟨by rfl, ?_⟩) hHeld ?_
        rotate_left
        · rintro w ⟨z0, z1⟩; go_simp; (try with_reducible rfl)
        try simp only [Act.put, List.setIfInBounds_toArray, List.set_cons_zero, List.set_cons_succ]
        refine wpAnyH_ready (rs := [5, 8, 11]) (by kernel_rfl) (by simp) ?_
        refine AllReadyH.cons rfl (fun K hK => ?_) (AllReadyH.cons rfl (fun K hK => ?_) (AllReadyH.cons rfl (fun K hK => ?_) AllReadyH.nil))
        · skip
          go_simp
          refine hK.out _ _ (HS.out _ (i.up (rw.up_alloc _ _))) (fun _ => ?_)
          clear hK K hHeld
          try simp only [Act.put, List.setIfInBounds_toArray, List.set_cons_zero, List.set_cons_succ]
          obtain ⟨g5, hg5⟩ : ∃ g5, g5 = u.heap.size := ⟨_, rfl⟩
          rw [← hg5]
          have ng5 : q < g5 := by rw [hg5]; exact i.2.lt
          refine rw.region_w (fun u => (InQ w w1 q A B u) ∧ (rw.At u g5 #[.string x8] 9)) ⟨i.up (rw.up_alloc _ _), by rw [hg5]; exact rw.At.new _ _ _⟩ ?_
          clear i
          rintro u ⟨i, a5⟩
          have hHeld : (u.cell? ⟨q, 0, none⟩ = some (.int .i64 A) ∧ u.cell? ⟨q, 1, none⟩ = some (.int .i64 B)) := HS.out u i
          clear hg5
          refine wpAnyH_ready (rs := [6, 8, 11]) (by kernel_rfl) (by simp) ?_
          refine AllReadyH.cons rfl (fun K hK => ?_) (AllReadyH.cons rfl (fun K hK => ?_) (AllReadyH.cons rfl (fun K hK => ?_) AllReadyH.nil))
          · skip
            go_simp
            go_at_call 38
            refine (joined1_at' x8 g5 u a5 hx7).mono ?_
            rintro r7 w7 ⟨rfl, hb⟩
            go_wp2_with fail
            refine hK.out _ _ (HS.out _ (i.up hb)) (fun _ => ?_)
            clear hK K hHeld
            try simp only [Act.put, List.setIfInBounds_toArray, List.set_cons_zero, List.set_cons_succ]
            refine rw.region_w (fun u => (InQ w w1 q A B u) ∧ (rw.At u g5 #[.string x8] 9)) ⟨i.up hb, a5.up hb⟩ ?_
            clear i a5 hb
            rintro u ⟨i, a5⟩
            have hHeld : (u.cell? ⟨q, 0, none⟩ = some (.int .i64 A) ∧ u.cell? ⟨q, 1, none⟩ = some (.int .i64 B)) := HS.out u i
            refine wpAnyH_ready (rs := [8, 11]) (by kernel_rfl) (by simp) ?_
            refine AllReadyH.cons rfl (fun K hK => ?_) (AllReadyH.cons rfl (fun K hK => ?_) AllReadyH.nil)
            · skip
              go_simp
              refine hK.out _ _ (HS.out _ (i.up (rw.up_alloc _ _))) (fun _ => ?_)
              clear hK K hHeld
              try simp only [Act.put, List.setIfInBounds_toArray, List.set_cons_zero, List.set_cons_succ]
              obtain ⟨g8, hg8⟩ : ∃ g8, g8 = u.heap.size := ⟨_, rfl⟩
              rw [← hg8]
              have ng8 : q < g8 := by rw [hg8]; exact i.2.lt
              have ng8g5 : g5 < g8 := by rw [hg8]; exact a5.lt
              refine rw.region_w (fun u => (InQ w w1 q A B u) ∧ (rw.At u g5 #[.string x8] 9) ∧ (rw.At u g8 #[.string y8] 9)) ⟨i.up (rw.up_alloc _ _), a5.up (rw.up_alloc _ _), by rw [hg8]; exact rw.At.new _ _ _⟩ ?_
              clear i a5
              rintro u ⟨i, a5, a8⟩
              have hHeld : (u.cell? ⟨q, 0, none⟩ = some (.int .i64 A) ∧ u.cell? ⟨q, 1, none⟩ = some (.int .i64 B)) := HS.out u i
              clear hg8
              refine wpAnyH_ready (rs := [9, 11]) (by kernel_rfl) (by simp) ?_
              refine AllReadyH.cons rfl (fun K hK => ?_) (AllReadyH.cons rfl (fun K hK => ?_) AllReadyH.nil)
              · skip
                go_simp
                go_at_call 38
                refine (joined1_at' y8 g8 u a8 hy7).mono ?_
                rintro r7 w7 ⟨rfl, hb⟩
                go_wp2_with fail
                refine hK.out _ _ (HS.out _ (i.up hb)) (fun _ => ?_)
                clear hK K hHeld
                try simp only [Act.put, List.setIfInBounds_toArray, List.set_cons_zero, List.set_cons_succ]
                refine rw.region_w (fun u => (InQ w w1 q A B u) ∧ (rw.At u g5 #[.string x8] 9) ∧ (rw.At u g8 #[.string y8] 9)) ⟨i.up hb, a5.up hb, a8.up hb⟩ ?_
                clear i a5 a8 hb
                rintro u ⟨i, a5, a8⟩
                have hHeld : (u.cell? ⟨q, 0, none⟩ = some (.int .i64 A) ∧ u.cell? ⟨q, 1, none⟩ = some (.int .i64 B)) := HS.out u i
                refine wpAnyH_take (i := 10) (oi := { dst := some 47, op := Op.build 26 #[(0, Operand.tmp 38), (1, Operand.tmp 40), (2, Operand.tmp 43), (3, Operand.tmp 46)], type := 26, pos := "l08_policy.go:151", after := #[{ on := 1, ground := Ground.data }, { on := 3, ground := Ground.data }, { on := 6, ground := Ground.data }, { on := 9, ground := Ground.data }], guard := none }) (v := ?_) rfl (by kernel_rfl) (by kernel_rfl) (by kernel_rfl) (fun _ _ _ h => h) (Or.inl ⟨by rfl, ?_⟩) hHeld ?_
                rotate_left
                · rintro w ⟨z0, z1⟩; go_simp; (try with_reducible rfl)
                try simp only [Act.put, List.setIfInBounds_toArray, List.set_cons_zero, List.set_cons_succ]
                refine wpAnyH_ready (rs := [11]) (by kernel_rfl) (by simp) ?_
                refine AllReadyH.cons rfl (fun K hK => ?_) AllReadyH.nil
                go_simp
                refine hK.out _ _ (HS.out _ (i.up (rw.up_alloc _ _))) (fun _ => ?_)
                clear hK K hHeld
                try simp only [Act.put, List.setIfInBounds_toArray, List.set_cons_zero, List.set_cons_succ]
                obtain ⟨p, hp⟩ : ∃ p, p = u.heap.size := ⟨_, rfl⟩
                rw [← hp]
                have np : q < p := by rw [hp]; exact i.2.lt
                have npg5 : g5 < p := by rw [hp]; exact a5.lt
                have npg8 : g8 < p := by rw [hp]; exact a8.lt
                refine rw.region_w (fun u => (InQ w w1 q A B u) ∧ (rw.At u g5 #[.string x8] 9) ∧ (rw.At u g8 #[.string y8] 9) ∧ (rw.At u p #[.int .i64 0, .int .i64 0, .string ⟨#[]⟩, .string ⟨#[]⟩] 26)) ⟨i.up (rw.up_alloc _ _), a5.up (rw.up_alloc _ _), a8.up (rw.up_alloc _ _), by rw [hp]; exact rw.At.new _ _ _⟩ ?_
                clear i a5 a8
                rintro u ⟨i, a5, a8, kk⟩
                have hHeld : (u.cell? ⟨q, 0, none⟩ = some (.int .i64 A) ∧ u.cell? ⟨q, 1, none⟩ = some (.int .i64 B)) := HS.out u i
                clear hp
                refine wpAnyH_ready (rs := [12]) (by kernel_rfl) (by simp) ?_
                refine AllReadyH.cons rfl (fun K hK => ?_) AllReadyH.nil
                have c0 : u.cell? ⟨p, 0, none⟩ = some (.int .i64 0) := kk.cell 0
                have c1 : u.cell? ⟨p, 1, none⟩ = some (.int .i64 0) := kk.cell 1
                have c2 : u.cell? ⟨p, 2, none⟩ = some (.string ⟨#[]⟩) := kk.cell 2
                have c3 : u.cell? ⟨p, 3, none⟩ = some (.string ⟨#[]⟩) := kk.cell 3
                have f0 := fun k => kk.frozen k
                go_simp
                refine hK.out _ _ (HS.out _ (((((i.set np 0 (.int .i64 A)).set np 1 (.int .i64 B)).set np 2 (.string x8)).set np 3 (.string y8)))) (fun _ => ?_)
                clear hK K hHeld
                try simp only [Act.put, List.setIfInBounds_toArray, List.set_cons_zero, List.set_cons_succ]
                refine rw.region_w (fun u => (InQ w w1 q A B u) ∧ (rw.At u g5 #[.string x8] 9) ∧ (rw.At u g8 #[.string y8] 9) ∧ (rw.At u p #[.int .i64 A, .int .i64 B, .string x8, .string y8] 26)) ⟨((((i.set np 0 (.int .i64 A)).set np 1 (.int .i64 B)).set np 2 (.string x8)).set np 3 (.string y8)), (rw.At.far (rw.At.far (rw.At.far (rw.At.far a5 (by omega) 0 (.int .i64 A)) (by omega) 1 (.int .i64 B)) (by omega) 2 (.string x8)) (by omega) 3 (.string y8)), (rw.At.far (rw.At.far (rw.At.far (rw.At.far a8 (by omega) 0 (.int .i64 A)) (by omega) 1 (.int .i64 B)) (by omega) 2 (.string x8)) (by omega) 3 (.string y8)), (rw.At.set (rw.At.set (rw.At.set (rw.At.set kk 0 (.int .i64 A)) 1 (.int .i64 B)) 2 (.string x8)) 3 (.string y8))⟩ ?_
                clear i a5 a8 kk c0 c1 c2 c3 f0
                rintro u ⟨i, a5, a8, kk⟩
                have hHeld : (u.cell? ⟨q, 0, none⟩ = some (.int .i64 A) ∧ u.cell? ⟨q, 1, none⟩ = some (.int .i64 B)) := HS.out u i
                refine wpAnyH_done (by kernel_rfl) ?_ _
                refine NoPanic.normal ?_
                exact KEY.out p g5 g8 u ⟨⟨i.1.1.1, by have := i.1.2.1; omega⟩, i.1.1.2.1, kk⟩
              · skip
                go_simp
                refine hK.out _ _ (HS.out _ (i.up (rw.up_alloc _ _))) (fun _ => ?_)
                clear hK K hHeld
                try simp only [Act.put, List.setIfInBounds_toArray, List.set_cons_zero, List.set_cons_succ]
                obtain ⟨p, hp⟩ : ∃ p, p = u.heap.size := ⟨_, rfl⟩
                rw [← hp]
                have np : q < p := by rw [hp]; exact i.2.lt
                have npg5 : g5 < p := by rw [hp]; exact a5.lt
                have npg8 : g8 < p := by rw [hp]; exact a8.lt
                refine rw.region_w (fun u => (InQ w w1 q A B u) ∧ (rw.At u g5 #[.string x8] 9) ∧ (rw.At u g8 #[.string y8] 9) ∧ (rw.At u p #[.int .i64 0, .int .i64 0, .string ⟨#[]⟩, .string ⟨#[]⟩] 26)) ⟨i.up (rw.up_alloc _ _), a5.up (rw.up_alloc _ _), a8.up (rw.up_alloc _ _), by rw [hp]; exact rw.At.new _ _ _⟩ ?_
                clear i a5 a8
                rintro u ⟨i, a5, a8, kk⟩
                have hHeld : (u.cell? ⟨q, 0, none⟩ = some (.int .i64 A) ∧ u.cell? ⟨q, 1, none⟩ = some (.int .i64 B)) := HS.out u i
                clear hp
                refine wpAnyH_ready (rs := [9]) (by kernel_rfl) (by simp) ?_
                refine AllReadyH.cons rfl (fun K hK => ?_) AllReadyH.nil
                go_simp
                go_at_call 38
                refine (joined1_at' y8 g8 u a8 hy7).mono ?_
                rintro r7 w7 ⟨rfl, hb⟩
                go_wp2_with fail
                refine hK.out _ _ (HS.out _ (i.up hb)) (fun _ => ?_)
                clear hK K hHeld
                try simp only [Act.put, List.setIfInBounds_toArray, List.set_cons_zero, List.set_cons_succ]
                refine rw.region_w (fun u => (InQ w w1 q A B u) ∧ (rw.At u g5 #[.string x8] 9) ∧ (rw.At u g8 #[.string y8] 9) ∧ (rw.At u p #[.int .i64 0, .int .i64 0, .string ⟨#[]⟩, .string ⟨#[]⟩] 26)) ⟨i.up hb, a5.up hb, a8.up hb, kk.up hb⟩ ?_
                clear i a5 a8 kk hb
                rintro u ⟨i, a5, a8, kk⟩
                have hHeld : (u.cell? ⟨q, 0, none⟩ = some (.int .i64 A) ∧ u.cell? ⟨q, 1, none⟩ = some (.int .i64 B)) := HS.out u i
                refine wpAnyH_take (i := 10) (oi := { dst := some 47, op := Op.build 26 #[(0, Operand.tmp 38), (1, Operand.tmp 40), (2, Operand.tmp 43), (3, Operand.tmp 46)], type := 26, pos := "l08_policy.go:151", after := #[{ on := 1, ground := Ground.data }, { on := 3, ground := Ground.data }, { on := 6, ground := Ground.data }, { on := 9, ground := Ground.data }], guard := none }) (v := ?_) rfl (by kernel_rfl) (by kernel_rfl) (by kernel_rfl) (fun _ _ _ h => h) (Or.inl ⟨by rfl, ?_⟩) hHeld ?_
                rotate_left
                · rintro w ⟨z0, z1⟩; go_simp; (try with_reducible rfl)
                try simp only [Act.put, List.setIfInBounds_toArray, List.set_cons_zero, List.set_cons_succ]
                refine wpAnyH_ready (rs := [12]) (by kernel_rfl) (by simp) ?_
                refine AllReadyH.cons rfl (fun K hK => ?_) AllReadyH.nil
                have c0 : u.cell? ⟨p, 0, none⟩ = some (.int .i64 0) := kk.cell 0
                have c1 : u.cell? ⟨p, 1, none⟩ = some (.int .i64 0) := kk.cell 1
                have c2 : u.cell? ⟨p, 2, none⟩ = some (.string ⟨#[]⟩) := kk.cell 2
                have c3 : u.cell? ⟨p, 3, none⟩ = some (.string ⟨#[]⟩) := kk.cell 3
                have f0 := fun k => kk.frozen k
                go_simp
                refine hK.out _ _ (HS.out _ (((((i.set np 0 (.int .i64 A)).set np 1 (.int .i64 B)).set np 2 (.string x8)).set np 3 (.string y8)))) (fun _ => ?_)
                clear hK K hHeld
                try simp only [Act.put, List.setIfInBounds_toArray, List.set_cons_zero, List.set_cons_succ]
                refine rw.region_w (fun u => (InQ w w1 q A B u) ∧ (rw.At u g5 #[.string x8] 9) ∧ (rw.At u g8 #[.string y8] 9) ∧ (rw.At u p #[.int .i64 A, .int .i64 B, .string x8, .string y8] 26)) ⟨((((i.set np 0 (.int .i64 A)).set np 1 (.int .i64 B)).set np 2 (.string x8)).set np 3 (.string y8)), (rw.At.far (rw.At.far (rw.At.far (rw.At.far a5 (by omega) 0 (.int .i64 A)) (by omega) 1 (.int .i64 B)) (by omega) 2 (.string x8)) (by omega) 3 (.string y8)), (rw.At.far (rw.At.far (rw.At.far (rw.At.far a8 (by omega) 0 (.int .i64 A)) (by omega) 1 (.int .i64 B)) (by omega) 2 (.string x8)) (by omega) 3 (.string y8)), (rw.At.set (rw.At.set (rw.At.set (rw.At.set kk 0 (.int .i64 A)) 1 (.int .i64 B)) 2 (.string x8)) 3 (.string y8))⟩ ?_
                clear i a5 a8 kk c0 c1 c2 c3 f0
                rintro u ⟨i, a5, a8, kk⟩
                have hHeld : (u.cell? ⟨q, 0, none⟩ = some (.int .i64 A) ∧ u.cell? ⟨q, 1, none⟩ = some (.int .i64 B)) := HS.out u i
                refine wpAnyH_done (by kernel_rfl) ?_ _
                refine NoPanic.normal ?_
                exact KEY.out p g5 g8 u ⟨⟨i.1.1.1, by have := i.1.2.1; omega⟩, i.1.1.2.1, kk⟩
            · skip
              go_simp
              refine hK.out _ _ (HS.out _ (i.up (rw.up_alloc _ _))) (fun _ => ?_)
              clear hK K hHeld
              try simp only [Act.put, List.setIfInBounds_toArray, List.set_cons_zero, List.set_cons_succ]
              obtain ⟨p, hp⟩ : ∃ p, p = u.heap.size := ⟨_, rfl⟩
              rw [← hp]
              have np : q < p := by rw [hp]; exact i.2.lt
              have npg5 : g5 < p := by rw [hp]; exact a5.lt
              refine rw.region_w (fun u => (InQ w w1 q A B u) ∧ (rw.At u g5 #[.string x8] 9) ∧ (rw.At u p #[.int .i64 0, .int .i64 0, .string ⟨#[]⟩, .string ⟨#[]⟩] 26)) ⟨i.up (rw.up_alloc _ _), a5.up (rw.up_alloc _ _), by rw [hp]; exact rw.At.new _ _ _⟩ ?_
              clear i a5
              rintro u ⟨i, a5, kk⟩
              have hHeld : (u.cell? ⟨q, 0, none⟩ = some (.int .i64 A) ∧ u.cell? ⟨q, 1, none⟩ = some (.int .i64 B)) := HS.out u i
              clear hp
              refine wpAnyH_ready (rs := [8]) (by kernel_rfl) (by simp) ?_
              refine AllReadyH.cons rfl (fun K hK => ?_) AllReadyH.nil
              go_simp
              refine hK.out _ _ (HS.out _ (i.up (rw.up_alloc _ _))) (fun _ => ?_)
              clear hK K hHeld
              try simp only [Act.put, List.setIfInBounds_toArray, List.set_cons_zero, List.set_cons_succ]
              obtain ⟨g8, hg8⟩ : ∃ g8, g8 = u.heap.size := ⟨_, rfl⟩
              rw [← hg8]
              have ng8 : q < g8 := by rw [hg8]; exact i.2.lt
              have ng8g5 : g5 < g8 := by rw [hg8]; exact a5.lt
              have ng8p : p < g8 := by rw [hg8]; exact kk.lt
              refine rw.region_w (fun u => (InQ w w1 q A B u) ∧ (rw.At u g5 #[.string x8] 9) ∧ (rw.At u p #[.int .i64 0, .int .i64 0, .string ⟨#[]⟩, .string ⟨#[]⟩] 26) ∧ (rw.At u g8 #[.string y8] 9)) ⟨i.up (rw.up_alloc _ _), a5.up (rw.up_alloc _ _), kk.up (rw.up_alloc _ _), by rw [hg8]; exact rw.At.new _ _ _⟩ ?_
              clear i a5 kk
              rintro u ⟨i, a5, kk, a8⟩
              have hHeld : (u.cell? ⟨q, 0, none⟩ = some (.int .i64 A) ∧ u.cell? ⟨q, 1, none⟩ = some (.int .i64 B)) := HS.out u i
              clear hg8
              refine wpAnyH_ready (rs := [9]) (by kernel_rfl) (by simp) ?_
              refine AllReadyH.cons rfl (fun K hK => ?_) AllReadyH.nil
              go_simp
              go_at_call 38
              refine (joined1_at' y8 g8 u a8 hy7).mono ?_
              rintro r7 w7 ⟨rfl, hb⟩
              go_wp2_with fail
              refine hK.out _ _ (HS.out _ (i.up hb)) (fun _ => ?_)
              clear hK K hHeld
              try simp only [Act.put, List.setIfInBounds_toArray, List.set_cons_zero, List.set_cons_succ]
              refine rw.region_w (fun u => (InQ w w1 q A B u) ∧ (rw.At u g5 #[.string x8] 9) ∧ (rw.At u p #[.int .i64 0, .int .i64 0, .string ⟨#[]⟩, .string ⟨#[]⟩] 26) ∧ (rw.At u g8 #[.string y8] 9)) ⟨i.up hb, a5.up hb, kk.up hb, a8.up hb⟩ ?_
              clear i a5 kk a8 hb
              rintro u ⟨i, a5, kk, a8⟩
              have hHeld : (u.cell? ⟨q, 0, none⟩ = some (.int .i64 A) ∧ u.cell? ⟨q, 1, none⟩ = some (.int .i64 B)) := HS.out u i
              refine wpAnyH_take (i := 10) (oi := { dst := some 47, op := Op.build 26 #[(0, Operand.tmp 38), (1, Operand.tmp 40), (2, Operand.tmp 43), (3, Operand.tmp 46)], type := 26, pos := "l08_policy.go:151", after := #[{ on := 1, ground := Ground.data }, { on := 3, ground := Ground.data }, { on := 6, ground := Ground.data }, { on := 9, ground := Ground.data }], guard := none }) (v := ?_) rfl (by kernel_rfl) (by kernel_rfl) (by kernel_rfl) (fun _ _ _ h => h) (Or.inl ⟨by rfl, ?_⟩) hHeld ?_
              rotate_left
              · rintro w ⟨z0, z1⟩; go_simp; (try with_reducible rfl)
              try simp only [Act.put, List.setIfInBounds_toArray, List.set_cons_zero, List.set_cons_succ]
              refine wpAnyH_ready (rs := [12]) (by kernel_rfl) (by simp) ?_
              refine AllReadyH.cons rfl (fun K hK => ?_) AllReadyH.nil
              have c0 : u.cell? ⟨p, 0, none⟩ = some (.int .i64 0) := kk.cell 0
              have c1 : u.cell? ⟨p, 1, none⟩ = some (.int .i64 0) := kk.cell 1
              have c2 : u.cell? ⟨p, 2, none⟩ = some (.string ⟨#[]⟩) := kk.cell 2
              have c3 : u.cell? ⟨p, 3, none⟩ = some (.string ⟨#[]⟩) := kk.cell 3
              have f0 := fun k => kk.frozen k
              go_simp
              refine hK.out _ _ (HS.out _ (((((i.set np 0 (.int .i64 A)).set np 1 (.int .i64 B)).set np 2 (.string x8)).set np 3 (.string y8)))) (fun _ => ?_)
              clear hK K hHeld
              try simp only [Act.put, List.setIfInBounds_toArray, List.set_cons_zero, List.set_cons_succ]
              refine rw.region_w (fun u => (InQ w w1 q A B u) ∧ (rw.At u g5 #[.string x8] 9) ∧ (rw.At u p #[.int .i64 A, .int .i64 B, .string x8, .string y8] 26) ∧ (rw.At u g8 #[.string y8] 9)) ⟨((((i.set np 0 (.int .i64 A)).set np 1 (.int .i64 B)).set np 2 (.string x8)).set np 3 (.string y8)), (rw.At.far (rw.At.far (rw.At.far (rw.At.far a5 (by omega) 0 (.int .i64 A)) (by omega) 1 (.int .i64 B)) (by omega) 2 (.string x8)) (by omega) 3 (.string y8)), (rw.At.set (rw.At.set (rw.At.set (rw.At.set kk 0 (.int .i64 A)) 1 (.int .i64 B)) 2 (.string x8)) 3 (.string y8)), (rw.At.far (rw.At.far (rw.At.far (rw.At.far a8 (by omega) 0 (.int .i64 A)) (by omega) 1 (.int .i64 B)) (by omega) 2 (.string x8)) (by omega) 3 (.string y8))⟩ ?_
              clear i a5 kk a8 c0 c1 c2 c3 f0
              rintro u ⟨i, a5, kk, a8⟩
              have hHeld : (u.cell? ⟨q, 0, none⟩ = some (.int .i64 A) ∧ u.cell? ⟨q, 1, none⟩ = some (.int .i64 B)) := HS.out u i
              refine wpAnyH_done (by kernel_rfl) ?_ _
              refine NoPanic.normal ?_
              exact KEY.out p g5 g8 u ⟨⟨i.1.1.1, by have := i.1.2.1; omega⟩, i.1.1.2.1, kk⟩
          · skip
            go_simp
            refine hK.out _ _ (HS.out _ (i.up (rw.up_alloc _ _))) (fun _ => ?_)
            clear hK K hHeld
            try simp only [Act.put, List.setIfInBounds_toArray, List.set_cons_zero, List.set_cons_succ]
            obtain ⟨g8, hg8⟩ : ∃ g8, g8 = u.heap.size := ⟨_, rfl⟩
            rw [← hg8]
            have ng8 : q < g8 := by rw [hg8]; exact i.2.lt
            have ng8g5 : g5 < g8 := by rw [hg8]; exact a5.lt
            refine rw.region_w (fun u => (InQ w w1 q A B u) ∧ (rw.At u g5 #[.string x8] 9) ∧ (rw.At u g8 #[.string y8] 9)) ⟨i.up (rw.up_alloc _ _), a5.up (rw.up_alloc _ _), by rw [hg8]; exact rw.At.new _ _ _⟩ ?_
            clear i a5
            rintro u ⟨i, a5, a8⟩
            have hHeld : (u.cell? ⟨q, 0, none⟩ = some (.int .i64 A) ∧ u.cell? ⟨q, 1, none⟩ = some (.int .i64 B)) := HS.out u i
            clear hg8
            refine wpAnyH_ready (rs := [6, 11]) (by kernel_rfl) (by simp) ?_
            refine AllReadyH.cons rfl (fun K hK => ?_) (AllReadyH.cons rfl (fun K hK => ?_) AllReadyH.nil)
            · skip
              go_simp
              go_at_call 38
              refine (joined1_at' x8 g5 u a5 hx7).mono ?_
              rintro r7 w7 ⟨rfl, hb⟩
              go_wp2_with fail
              refine hK.out _ _ (HS.out _ (i.up hb)) (fun _ => ?_)
              clear hK K hHeld
              try simp only [Act.put, List.setIfInBounds_toArray, List.set_cons_zero, List.set_cons_succ]
              refine rw.region_w (fun u => (InQ w w1 q A B u) ∧ (rw.At u g5 #[.string x8] 9) ∧ (rw.At u g8 #[.string y8] 9)) ⟨i.up hb, a5.up hb, a8.up hb⟩ ?_
              clear i a5 a8 hb
              rintro u ⟨i, a5, a8⟩
              have hHeld : (u.cell? ⟨q, 0, none⟩ = some (.int .i64 A) ∧ u.cell? ⟨q, 1, none⟩ = some (.int .i64 B)) := HS.out u i
              refine wpAnyH_ready (rs := [9, 11]) (by kernel_rfl) (by simp) ?_
              refine AllReadyH.cons rfl (fun K hK => ?_) (AllReadyH.cons rfl (fun K hK => ?_) AllReadyH.nil)
              · skip
                go_simp
                go_at_call 38
                refine (joined1_at' y8 g8 u a8 hy7).mono ?_
                rintro r7 w7 ⟨rfl, hb⟩
                go_wp2_with fail
                refine hK.out _ _ (HS.out _ (i.up hb)) (fun _ => ?_)
                clear hK K hHeld
                try simp only [Act.put, List.setIfInBounds_toArray, List.set_cons_zero, List.set_cons_succ]
                refine rw.region_w (fun u => (InQ w w1 q A B u) ∧ (rw.At u g5 #[.string x8] 9) ∧ (rw.At u g8 #[.string y8] 9)) ⟨i.up hb, a5.up hb, a8.up hb⟩ ?_
                clear i a5 a8 hb
                rintro u ⟨i, a5, a8⟩
                have hHeld : (u.cell? ⟨q, 0, none⟩ = some (.int .i64 A) ∧ u.cell? ⟨q, 1, none⟩ = some (.int .i64 B)) := HS.out u i
                refine wpAnyH_take (i := 10) (oi := { dst := some 47, op := Op.build 26 #[(0, Operand.tmp 38), (1, Operand.tmp 40), (2, Operand.tmp 43), (3, Operand.tmp 46)], type := 26, pos := "l08_policy.go:151", after := #[{ on := 1, ground := Ground.data }, { on := 3, ground := Ground.data }, { on := 6, ground := Ground.data }, { on := 9, ground := Ground.data }], guard := none }) (v := ?_) rfl (by kernel_rfl) (by kernel_rfl) (by kernel_rfl) (fun _ _ _ h => h) (Or.inl ⟨by rfl, ?_⟩) hHeld ?_
                rotate_left
                · rintro w ⟨z0, z1⟩; go_simp; (try with_reducible rfl)
                try simp only [Act.put, List.setIfInBounds_toArray, List.set_cons_zero, List.set_cons_succ]
                refine wpAnyH_ready (rs := [11]) (by kernel_rfl) (by simp) ?_
                refine AllReadyH.cons rfl (fun K hK => ?_) AllReadyH.nil
                go_simp
                refine hK.out _ _ (HS.out _ (i.up (rw.up_alloc _ _))) (fun _ => ?_)
                clear hK K hHeld
                try simp only [Act.put, List.setIfInBounds_toArray, List.set_cons_zero, List.set_cons_succ]
                obtain ⟨p, hp⟩ : ∃ p, p = u.heap.size := ⟨_, rfl⟩
                rw [← hp]
                have np : q < p := by rw [hp]; exact i.2.lt
                have npg5 : g5 < p := by rw [hp]; exact a5.lt
                have npg8 : g8 < p := by rw [hp]; exact a8.lt
                refine rw.region_w (fun u => (InQ w w1 q A B u) ∧ (rw.At u g5 #[.string x8] 9) ∧ (rw.At u g8 #[.string y8] 9) ∧ (rw.At u p #[.int .i64 0, .int .i64 0, .string ⟨#[]⟩, .string ⟨#[]⟩] 26)) ⟨i.up (rw.up_alloc _ _), a5.up (rw.up_alloc _ _), a8.up (rw.up_alloc _ _), by rw [hp]; exact rw.At.new _ _ _⟩ ?_
                clear i a5 a8
                rintro u ⟨i, a5, a8, kk⟩
                have hHeld : (u.cell? ⟨q, 0, none⟩ = some (.int .i64 A) ∧ u.cell? ⟨q, 1, none⟩ = some (.int .i64 B)) := HS.out u i
                clear hp
                refine wpAnyH_ready (rs := [12]) (by kernel_rfl) (by simp) ?_
                refine AllReadyH.cons rfl (fun K hK => ?_) AllReadyH.nil
                have c0 : u.cell? ⟨p, 0, none⟩ = some (.int .i64 0) := kk.cell 0
                have c1 : u.cell? ⟨p, 1, none⟩ = some (.int .i64 0) := kk.cell 1
                have c2 : u.cell? ⟨p, 2, none⟩ = some (.string ⟨#[]⟩) := kk.cell 2
                have c3 : u.cell? ⟨p, 3, none⟩ = some (.string ⟨#[]⟩) := kk.cell 3
                have f0 := fun k => kk.frozen k
                go_simp
                refine hK.out _ _ (HS.out _ (((((i.set np 0 (.int .i64 A)).set np 1 (.int .i64 B)).set np 2 (.string x8)).set np 3 (.string y8)))) (fun _ => ?_)
                clear hK K hHeld
                try simp only [Act.put, List.setIfInBounds_toArray, List.set_cons_zero, List.set_cons_succ]
                refine rw.region_w (fun u => (InQ w w1 q A B u) ∧ (rw.At u g5 #[.string x8] 9) ∧ (rw.At u g8 #[.string y8] 9) ∧ (rw.At u p #[.int .i64 A, .int .i64 B, .string x8, .string y8] 26)) ⟨((((i.set np 0 (.int .i64 A)).set np 1 (.int .i64 B)).set np 2 (.string x8)).set np 3 (.string y8)), (rw.At.far (rw.At.far (rw.At.far (rw.At.far a5 (by omega) 0 (.int .i64 A)) (by omega) 1 (.int .i64 B)) (by omega) 2 (.string x8)) (by omega) 3 (.string y8)), (rw.At.far (rw.At.far (rw.At.far (rw.At.far a8 (by omega) 0 (.int .i64 A)) (by omega) 1 (.int .i64 B)) (by omega) 2 (.string x8)) (by omega) 3 (.string y8)), (rw.At.set (rw.At.set (rw.At.set (rw.At.set kk 0 (.int .i64 A)) 1 (.int .i64 B)) 2 (.string x8)) 3 (.string y8))⟩ ?_
                clear i a5 a8 kk c0 c1 c2 c3 f0
                rintro u ⟨i, a5, a8, kk⟩
                have hHeld : (u.cell? ⟨q, 0, none⟩ = some (.int .i64 A) ∧ u.cell? ⟨q, 1, none⟩ = some (.int .i64 B)) := HS.out u i
                refine wpAnyH_done (by kernel_rfl) ?_ _
                refine NoPanic.normal ?_
                exact KEY.out p g5 g8 u ⟨⟨i.1.1.1, by have := i.1.2.1; omega⟩, i.1.1.2.1, kk⟩
              · skip
                go_simp
                refine hK.out _ _ (HS.out _ (i.up (rw.up_alloc _ _))) (fun _ => ?_)
                clear hK K hHeld
                try simp only [Act.put, List.setIfInBounds_toArray, List.set_cons_zero, List.set_cons_succ]
                obtain ⟨p, hp⟩ : ∃ p, p = u.heap.size := ⟨_, rfl⟩
                rw [← hp]
                have np : q < p := by rw [hp]; exact i.2.lt
                have npg5 : g5 < p := by rw [hp]; exact a5.lt
                have npg8 : g8 < p := by rw [hp]; exact a8.lt
                refine rw.region_w (fun u => (InQ w w1 q A B u) ∧ (rw.At u g5 #[.string x8] 9) ∧ (rw.At u g8 #[.string y8] 9) ∧ (rw.At u p #[.int .i64 0, .int .i64 0, .string ⟨#[]⟩, .string ⟨#[]⟩] 26)) ⟨i.up (rw.up_alloc _ _), a5.up (rw.up_alloc _ _), a8.up (rw.up_alloc _ _), by rw [hp]; exact rw.At.new _ _ _⟩ ?_
                clear i a5 a8
                rintro u ⟨i, a5, a8, kk⟩
                have hHeld : (u.cell? ⟨q, 0, none⟩ = some (.int .i64 A) ∧ u.cell? ⟨q, 1, none⟩ = some (.int .i64 B)) := HS.out u i
                clear hp
                refine wpAnyH_ready (rs := [9]) (by kernel_rfl) (by simp) ?_
                refine AllReadyH.cons rfl (fun K hK => ?_) AllReadyH.nil
                go_simp
                go_at_call 38
                refine (joined1_at' y8 g8 u a8 hy7).mono ?_
                rintro r7 w7 ⟨rfl, hb⟩
                go_wp2_with fail
                refine hK.out _ _ (HS.out _ (i.up hb)) (fun _ => ?_)
                clear hK K hHeld
                try simp only [Act.put, List.setIfInBounds_toArray, List.set_cons_zero, List.set_cons_succ]
                refine rw.region_w (fun u => (InQ w w1 q A B u) ∧ (rw.At u g5 #[.string x8] 9) ∧ (rw.At u g8 #[.string y8] 9) ∧ (rw.At u p #[.int .i64 0, .int .i64 0, .string ⟨#[]⟩, .string ⟨#[]⟩] 26)) ⟨i.up hb, a5.up hb, a8.up hb, kk.up hb⟩ ?_
                clear i a5 a8 kk hb
                rintro u ⟨i, a5, a8, kk⟩
                have hHeld : (u.cell? ⟨q, 0, none⟩ = some (.int .i64 A) ∧ u.cell? ⟨q, 1, none⟩ = some (.int .i64 B)) := HS.out u i
                refine wpAnyH_take (i := 10) (oi := { dst := some 47, op := Op.build 26 #[(0, Operand.tmp 38), (1, Operand.tmp 40), (2, Operand.tmp 43), (3, Operand.tmp 46)], type := 26, pos := "l08_policy.go:151", after := #[{ on := 1, ground := Ground.data }, { on := 3, ground := Ground.data }, { on := 6, ground := Ground.data }, { on := 9, ground := Ground.data }], guard := none }) (v := ?_) rfl (by kernel_rfl) (by kernel_rfl) (by kernel_rfl) (fun _ _ _ h => h) (Or.inl ⟨by rfl, ?_⟩) hHeld ?_
                rotate_left
                · rintro w ⟨z0, z1⟩; go_simp; (try with_reducible rfl)
                try simp only [Act.put, List.setIfInBounds_toArray, List.set_cons_zero, List.set_cons_succ]
                refine wpAnyH_ready (rs := [12]) (by kernel_rfl) (by simp) ?_
                refine AllReadyH.cons rfl (fun K hK => ?_) AllReadyH.nil
                have c0 : u.cell? ⟨p, 0, none⟩ = some (.int .i64 0) := kk.cell 0
                have c1 : u.cell? ⟨p, 1, none⟩ = some (.int .i64 0) := kk.cell 1
                have c2 : u.cell? ⟨p, 2, none⟩ = some (.string ⟨#[]⟩) := kk.cell 2
                have c3 : u.cell? ⟨p, 3, none⟩ = some (.string ⟨#[]⟩) := kk.cell 3
                have f0 := fun k => kk.frozen k
                go_simp
                refine hK.out _ _ (HS.out _ (((((i.set np 0 (.int .i64 A)).set np 1 (.int .i64 B)).set np 2 (.string x8)).set np 3 (.string y8)))) (fun _ => ?_)
                clear hK K hHeld
                try simp only [Act.put, List.setIfInBounds_toArray, List.set_cons_zero, List.set_cons_succ]
                refine rw.region_w (fun u => (InQ w w1 q A B u) ∧ (rw.At u g5 #[.string x8] 9) ∧ (rw.At u g8 #[.string y8] 9) ∧ (rw.At u p #[.int .i64 A, .int .i64 B, .string x8, .string y8] 26)) ⟨((((i.set np 0 (.int .i64 A)).set np 1 (.int .i64 B)).set np 2 (.string x8)).set np 3 (.string y8)), (rw.At.far (rw.At.far (rw.At.far (rw.At.far a5 (by omega) 0 (.int .i64 A)) (by omega) 1 (.int .i64 B)) (by omega) 2 (.string x8)) (by omega) 3 (.string y8)), (rw.At.far (rw.At.far (rw.At.far (rw.At.far a8 (by omega) 0 (.int .i64 A)) (by omega) 1 (.int .i64 B)) (by omega) 2 (.string x8)) (by omega) 3 (.string y8)), (rw.At.set (rw.At.set (rw.At.set (rw.At.set kk 0 (.int .i64 A)) 1 (.int .i64 B)) 2 (.string x8)) 3 (.string y8))⟩ ?_
                clear i a5 a8 kk c0 c1 c2 c3 f0
                rintro u ⟨i, a5, a8, kk⟩
                have hHeld : (u.cell? ⟨q, 0, none⟩ = some (.int .i64 A) ∧ u.cell? ⟨q, 1, none⟩ = some (.int .i64 B)) := HS.out u i
                refine wpAnyH_done (by kernel_rfl) ?_ _
                refine NoPanic.normal ?_
                exact KEY.out p g5 g8 u ⟨⟨i.1.1.1, by have := i.1.2.1; omega⟩, i.1.1.2.1, kk⟩
            · skip
              go_simp
              refine hK.out _ _ (HS.out _ (i.up (rw.up_alloc _ _))) (fun _ => ?_)
              clear hK K hHeld
              try simp only [Act.put, List.setIfInBounds_toArray, List.set_cons_zero, List.set_cons_succ]
              obtain ⟨p, hp⟩ : ∃ p, p = u.heap.size := ⟨_, rfl⟩
              rw [← hp]
              have np : q < p := by rw [hp]; exact i.2.lt
              have npg5 : g5 < p := by rw [hp]; exact a5.lt
              have npg8 : g8 < p := by rw [hp]; exact a8.lt
              refine rw.region_w (fun u => (InQ w w1 q A B u) ∧ (rw.At u g5 #[.string x8] 9) ∧ (rw.At u g8 #[.string y8] 9) ∧ (rw.At u p #[.int .i64 0, .int .i64 0, .string ⟨#[]⟩, .string ⟨#[]⟩] 26)) ⟨i.up (rw.up_alloc _ _), a5.up (rw.up_alloc _ _), a8.up (rw.up_alloc _ _), by rw [hp]; exact rw.At.new _ _ _⟩ ?_
              clear i a5 a8
              rintro u ⟨i, a5, a8, kk⟩
              have hHeld : (u.cell? ⟨q, 0, none⟩ = some (.int .i64 A) ∧ u.cell? ⟨q, 1, none⟩ = some (.int .i64 B)) := HS.out u i
              clear hp
              refine wpAnyH_ready (rs := [6]) (by kernel_rfl) (by simp) ?_
              refine AllReadyH.cons rfl (fun K hK => ?_) AllReadyH.nil
              go_simp
              go_at_call 38
              refine (joined1_at' x8 g5 u a5 hx7).mono ?_
              rintro r7 w7 ⟨rfl, hb⟩
              go_wp2_with fail
              refine hK.out _ _ (HS.out _ (i.up hb)) (fun _ => ?_)
              clear hK K hHeld
              try simp only [Act.put, List.setIfInBounds_toArray, List.set_cons_zero, List.set_cons_succ]
              refine rw.region_w (fun u => (InQ w w1 q A B u) ∧ (rw.At u g5 #[.string x8] 9) ∧ (rw.At u g8 #[.string y8] 9) ∧ (rw.At u p #[.int .i64 0, .int .i64 0, .string ⟨#[]⟩, .string ⟨#[]⟩] 26)) ⟨i.up hb, a5.up hb, a8.up hb, kk.up hb⟩ ?_
              clear i a5 a8 kk hb
              rintro u ⟨i, a5, a8, kk⟩
              have hHeld : (u.cell? ⟨q, 0, none⟩ = some (.int .i64 A) ∧ u.cell? ⟨q, 1, none⟩ = some (.int .i64 B)) := HS.out u i
              refine wpAnyH_ready (rs := [9]) (by kernel_rfl) (by simp) ?_
              refine AllReadyH.cons rfl (fun K hK => ?_) AllReadyH.nil
              go_simp
              go_at_call 38
              refine (joined1_at' y8 g8 u a8 hy7).mono ?_
              rintro r7 w7 ⟨rfl, hb⟩
              go_wp2_with fail
              refine hK.out _ _ (HS.out _ (i.up hb)) (fun _ => ?_)
              clear hK K hHeld
              try simp only [Act.put, List.setIfInBounds_toArray, List.set_cons_zero, List.set_cons_succ]
              refine rw.region_w (fun u => (InQ w w1 q A B u) ∧ (rw.At u g5 #[.string x8] 9) ∧ (rw.At u g8 #[.string y8] 9) ∧ (rw.At u p #[.int .i64 0, .int .i64 0, .string ⟨#[]⟩, .string ⟨#[]⟩] 26)) ⟨i.up hb, a5.up hb, a8.up hb, kk.up hb⟩ ?_
              clear i a5 a8 kk hb
              rintro u ⟨i, a5, a8, kk⟩
              have hHeld : (u.cell? ⟨q, 0, none⟩ = some (.int .i64 A) ∧ u.cell? ⟨q, 1, none⟩ = some (.int .i64 B)) := HS.out u i
              refine wpAnyH_take (i := 10) (oi := { dst := some 47, op := Op.build 26 #[(0, Operand.tmp 38), (1, Operand.tmp 40), (2, Operand.tmp 43), (3, Operand.tmp 46)], type := 26, pos := "l08_policy.go:151", after := #[{ on := 1, ground := Ground.data }, { on := 3, ground := Ground.data }, { on := 6, ground := Ground.data }, { on := 9, ground := Ground.data }], guard := none }) (v := ?_) rfl (by kernel_rfl) (by kernel_rfl) (by kernel_rfl) (fun _ _ _ h => h) (Or.inl ⟨by rfl, ?_⟩) hHeld ?_
              rotate_left
              · rintro w ⟨z0, z1⟩; go_simp; (try with_reducible rfl)
              try simp only [Act.put, List.setIfInBounds_toArray, List.set_cons_zero, List.set_cons_succ]
              refine wpAnyH_ready (rs := [12]) (by kernel_rfl) (by simp) ?_
              refine AllReadyH.cons rfl (fun K hK => ?_) AllReadyH.nil
              have c0 : u.cell? ⟨p, 0, none⟩ = some (.int .i64 0) := kk.cell 0
              have c1 : u.cell? ⟨p, 1, none⟩ = some (.int .i64 0) := kk.cell 1
              have c2 : u.cell? ⟨p, 2, none⟩ = some (.string ⟨#[]⟩) := kk.cell 2
              have c3 : u.cell? ⟨p, 3, none⟩ = some (.string ⟨#[]⟩) := kk.cell 3
              have f0 := fun k => kk.frozen k
              go_simp
              refine hK.out _ _ (HS.out _ (((((i.set np 0 (.int .i64 A)).set np 1 (.int .i64 B)).set np 2 (.string x8)).set np 3 (.string y8)))) (fun _ => ?_)
              clear hK K hHeld
              try simp only [Act.put, List.setIfInBounds_toArray, List.set_cons_zero, List.set_cons_succ]
              refine rw.region_w (fun u => (InQ w w1 q A B u) ∧ (rw.At u g5 #[.string x8] 9) ∧ (rw.At u g8 #[.string y8] 9) ∧ (rw.At u p #[.int .i64 A, .int .i64 B, .string x8, .string y8] 26)) ⟨((((i.set np 0 (.int .i64 A)).set np 1 (.int .i64 B)).set np 2 (.string x8)).set np 3 (.string y8)), (rw.At.far (rw.At.far (rw.At.far (rw.At.far a5 (by omega) 0 (.int .i64 A)) (by omega) 1 (.int .i64 B)) (by omega) 2 (.string x8)) (by omega) 3 (.string y8)), (rw.At.far (rw.At.far (rw.At.far (rw.At.far a8 (by omega) 0 (.int .i64 A)) (by omega) 1 (.int .i64 B)) (by omega) 2 (.string x8)) (by omega) 3 (.string y8)), (rw.At.set (rw.At.set (rw.At.set (rw.At.set kk 0 (.int .i64 A)) 1 (.int .i64 B)) 2 (.string x8)) 3 (.string y8))⟩ ?_
              clear i a5 a8 kk c0 c1 c2 c3 f0
              rintro u ⟨i, a5, a8, kk⟩
              have hHeld : (u.cell? ⟨q, 0, none⟩ = some (.int .i64 A) ∧ u.cell? ⟨q, 1, none⟩ = some (.int .i64 B)) := HS.out u i
              refine wpAnyH_done (by kernel_rfl) ?_ _
              refine NoPanic.normal ?_
              exact KEY.out p g5 g8 u ⟨⟨i.1.1.1, by have := i.1.2.1; omega⟩, i.1.1.2.1, kk⟩
          · skip
            go_simp
            refine hK.out _ _ (HS.out _ (i.up (rw.up_alloc _ _))) (fun _ => ?_)
            clear hK K hHeld
            try simp only [Act.put, List.setIfInBounds_toArray, List.set_cons_zero, List.set_cons_succ]
            obtain ⟨p, hp⟩ : ∃ p, p = u.heap.size := ⟨_, rfl⟩
            rw [← hp]
            have np : q < p := by rw [hp]; exact i.2.lt
            have npg5 : g5 < p := by rw [hp]; exact a5.lt
            refine rw.region_w (fun u => (InQ w w1 q A B u) ∧ (rw.At u g5 #[.string x8] 9) ∧ (rw.At u p #[.int .i64 0, .int .i64 0, .string ⟨#[]⟩, .string ⟨#[]⟩] 26)) ⟨i.up (rw.up_alloc _ _), a5.up (rw.up_alloc _ _), by rw [hp]; exact rw.At.new _ _ _⟩ ?_
            clear i a5
            rintro u ⟨i, a5, kk⟩
            have hHeld : (u.cell? ⟨q, 0, none⟩ = some (.int .i64 A) ∧ u.cell? ⟨q, 1, none⟩ = some (.int .i64 B)) := HS.out u i
            clear hp
            refine wpAnyH_ready (rs := [6, 8]) (by kernel_rfl) (by simp) ?_
            refine AllReadyH.cons rfl (fun K hK => ?_) (AllReadyH.cons rfl (fun K hK => ?_) AllReadyH.nil)
            · skip
              go_simp
              go_at_call 38
              refine (joined1_at' x8 g5 u a5 hx7).mono ?_
              rintro r7 w7 ⟨rfl, hb⟩
              go_wp2_with fail
              refine hK.out _ _ (HS.out _ (i.up hb)) (fun _ => ?_)
              clear hK K hHeld
              try simp only [Act.put, List.setIfInBounds_toArray, List.set_cons_zero, List.set_cons_succ]
              refine rw.region_w (fun u => (InQ w w1 q A B u) ∧ (rw.At u g5 #[.string x8] 9) ∧ (rw.At u p #[.int .i64 0, .int .i64 0, .string ⟨#[]⟩, .string ⟨#[]⟩] 26)) ⟨i.up hb, a5.up hb, kk.up hb⟩ ?_
              clear i a5 kk hb
              rintro u ⟨i, a5, kk⟩
              have hHeld : (u.cell? ⟨q, 0, none⟩ = some (.int .i64 A) ∧ u.cell? ⟨q, 1, none⟩ = some (.int .i64 B)) := HS.out u i
              refine wpAnyH_ready (rs := [8]) (by kernel_rfl) (by simp) ?_
              refine AllReadyH.cons rfl (fun K hK => ?_) AllReadyH.nil
              go_simp
              refine hK.out _ _ (HS.out _ (i.up (rw.up_alloc _ _))) (fun _ => ?_)
              clear hK K hHeld
              try simp only [Act.put, List.setIfInBounds_toArray, List.set_cons_zero, List.set_cons_succ]
              obtain ⟨g8, hg8⟩ : ∃ g8, g8 = u.heap.size := ⟨_, rfl⟩
              rw [← hg8]
              have ng8 : q < g8 := by rw [hg8]; exact i.2.lt
              have ng8g5 : g5 < g8 := by rw [hg8]; exact a5.lt
              have ng8p : p < g8 := by rw [hg8]; exact kk.lt
              refine rw.region_w (fun u => (InQ w w1 q A B u) ∧ (rw.At u g5 #[.string x8] 9) ∧ (rw.At u p #[.int .i64 0, .int .i64 0, .string ⟨#[]⟩, .string ⟨#[]⟩] 26) ∧ (rw.At u g8 #[.string y8] 9)) ⟨i.up (rw.up_alloc _ _), a5.up (rw.up_alloc _ _), kk.up (rw.up_alloc _ _), by rw [hg8]; exact rw.At.new _ _ _⟩ ?_
              clear i a5 kk
              rintro u ⟨i, a5, kk, a8⟩
              have hHeld : (u.cell? ⟨q, 0, none⟩ = some (.int .i64 A) ∧ u.cell? ⟨q, 1, none⟩ = some (.int .i64 B)) := HS.out u i
              clear hg8
              refine wpAnyH_ready (rs := [9]) (by kernel_rfl) (by simp) ?_
              refine AllReadyH.cons rfl (fun K hK => ?_) AllReadyH.nil
              go_simp
              go_at_call 38
              refine (joined1_at' y8 g8 u a8 hy7).mono ?_
              rintro r7 w7 ⟨rfl, hb⟩
              go_wp2_with fail
              refine hK.out _ _ (HS.out _ (i.up hb)) (fun _ => ?_)
              clear hK K hHeld
              try simp only [Act.put, List.setIfInBounds_toArray, List.set_cons_zero, List.set_cons_succ]
              refine rw.region_w (fun u => (InQ w w1 q A B u) ∧ (rw.At u g5 #[.string x8] 9) ∧ (rw.At u p #[.int .i64 0, .int .i64 0, .string ⟨#[]⟩, .string ⟨#[]⟩] 26) ∧ (rw.At u g8 #[.string y8] 9)) ⟨i.up hb, a5.up hb, kk.up hb, a8.up hb⟩ ?_
              clear i a5 kk a8 hb
              rintro u ⟨i, a5, kk, a8⟩
              have hHeld : (u.cell? ⟨q, 0, none⟩ = some (.int .i64 A) ∧ u.cell? ⟨q, 1, none⟩ = some (.int .i64 B)) := HS.out u i
              refine wpAnyH_take (i := 10) (oi := { dst := some 47, op := Op.build 26 #[(0, Operand.tmp 38), (1, Operand.tmp 40), (2, Operand.tmp 43), (3, Operand.tmp 46)], type := 26, pos := "l08_policy.go:151", after := #[{ on := 1, ground := Ground.data }, { on := 3, ground := Ground.data }, { on := 6, ground := Ground.data }, { on := 9, ground := Ground.data }], guard := none }) (v := ?_) rfl (by kernel_rfl) (by kernel_rfl) (by kernel_rfl) (fun _ _ _ h => h) (Or.inl ⟨by rfl, ?_⟩) hHeld ?_
              rotate_left
              · rintro w ⟨z0, z1⟩; go_simp; (try with_reducible rfl)
              try simp only [Act.put, List.setIfInBounds_toArray, List.set_cons_zero, List.set_cons_succ]
              refine wpAnyH_ready (rs := [12]) (by kernel_rfl) (by simp) ?_
              refine AllReadyH.cons rfl (fun K hK => ?_) AllReadyH.nil
              have c0 : u.cell? ⟨p, 0, none⟩ = some (.int .i64 0) := kk.cell 0
              have c1 : u.cell? ⟨p, 1, none⟩ = some (.int .i64 0) := kk.cell 1
              have c2 : u.cell? ⟨p, 2, none⟩ = some (.string ⟨#[]⟩) := kk.cell 2
              have c3 : u.cell? ⟨p, 3, none⟩ = some (.string ⟨#[]⟩) := kk.cell 3
              have f0 := fun k => kk.frozen k
              go_simp
              refine hK.out _ _ (HS.out _ (((((i.set np 0 (.int .i64 A)).set np 1 (.int .i64 B)).set np 2 (.string x8)).set np 3 (.string y8)))) (fun _ => ?_)
              clear hK K hHeld
              try simp only [Act.put, List.setIfInBounds_toArray, List.set_cons_zero, List.set_cons_succ]
              refine rw.region_w (fun u => (InQ w w1 q A B u) ∧ (rw.At u g5 #[.string x8] 9) ∧ (rw.At u p #[.int .i64 A, .int .i64 B, .string x8, .string y8] 26) ∧ (rw.At u g8 #[.string y8] 9)) ⟨((((i.set np 0 (.int .i64 A)).set np 1 (.int .i64 B)).set np 2 (.string x8)).set np 3 (.string y8)), (rw.At.far (rw.At.far (rw.At.far (rw.At.far a5 (by omega) 0 (.int .i64 A)) (by omega) 1 (.int .i64 B)) (by omega) 2 (.string x8)) (by omega) 3 (.string y8)), (rw.At.set (rw.At.set (rw.At.set (rw.At.set kk 0 (.int .i64 A)) 1 (.int .i64 B)) 2 (.string x8)) 3 (.string y8)), (rw.At.far (rw.At.far (rw.At.far (rw.At.far a8 (by omega) 0 (.int .i64 A)) (by omega) 1 (.int .i64 B)) (by omega) 2 (.string x8)) (by omega) 3 (.string y8))⟩ ?_
              clear i a5 kk a8 c0 c1 c2 c3 f0
              rintro u ⟨i, a5, kk, a8⟩
              have hHeld : (u.cell? ⟨q, 0, none⟩ = some (.int .i64 A) ∧ u.cell? ⟨q, 1, none⟩ = some (.int .i64 B)) := HS.out u i
              refine wpAnyH_done (by kernel_rfl) ?_ _
              refine NoPanic.normal ?_
              exact KEY.out p g5 g8 u ⟨⟨i.1.1.1, by have := i.1.2.1; omega⟩, i.1.1.2.1, kk⟩
            · skip
              go_simp
              refine hK.out _ _ (HS.out _ (i.up (rw.up_alloc _ _))) (fun _ => ?_)
              clear hK K hHeld
              try simp only [Act.put, List.setIfInBounds_toArray, List.set_cons_zero, List.set_cons_succ]
              obtain ⟨g8, hg8⟩ : ∃ g8, g8 = u.heap.size := ⟨_, rfl⟩
              rw [← hg8]
              have ng8 : q < g8 := by rw [hg8]; exact i.2.lt
              have ng8g5 : g5 < g8 := by rw [hg8]; exact a5.lt
              have ng8p : p < g8 := by rw [hg8]; exact kk.lt
              refine rw.region_w (fun u => (InQ w w1 q A B u) ∧ (rw.At u g5 #[.string x8] 9) ∧ (rw.At u p #[.int .i64 0, .int .i64 0, .string ⟨#[]⟩, .string ⟨#[]⟩] 26) ∧ (rw.At u g8 #[.string y8] 9)) ⟨i.up (rw.up_alloc _ _), a5.up (rw.up_alloc _ _), kk.up (rw.up_alloc _ _), by rw [hg8]; exact rw.At.new _ _ _⟩ ?_
              clear i a5 kk
              rintro u ⟨i, a5, kk, a8⟩
              have hHeld : (u.cell? ⟨q, 0, none⟩ = some (.int .i64 A) ∧ u.cell? ⟨q, 1, none⟩ = some (.int .i64 B)) := HS.out u i
              clear hg8
              refine wpAnyH_ready (rs := [6]) (by kernel_rfl) (by simp) ?_
              refine AllReadyH.cons rfl (fun K hK => ?_) AllReadyH.nil
              go_simp
              go_at_call 38
              refine (joined1_at' x8 g5 u a5 hx7).mono ?_
              rintro r7 w7 ⟨rfl, hb⟩
              go_wp2_with fail
              refine hK.out _ _ (HS.out _ (i.up hb)) (fun _ => ?_)
              clear hK K hHeld
              try simp only [Act.put, List.setIfInBounds_toArray, List.set_cons_zero, List.set_cons_succ]
              refine rw.region_w (fun u => (InQ w w1 q A B u) ∧ (rw.At u g5 #[.string x8] 9) ∧ (rw.At u p #[.int .i64 0, .int .i64 0, .string ⟨#[]⟩, .string ⟨#[]⟩] 26) ∧ (rw.At u g8 #[.string y8] 9)) ⟨i.up hb, a5.up hb, kk.up hb, a8.up hb⟩ ?_
              clear i a5 kk a8 hb
              rintro u ⟨i, a5, kk, a8⟩
              have hHeld : (u.cell? ⟨q, 0, none⟩ = some (.int .i64 A) ∧ u.cell? ⟨q, 1, none⟩ = some (.int .i64 B)) := HS.out u i
              refine wpAnyH_ready (rs := [9]) (by kernel_rfl) (by simp) ?_
              refine AllReadyH.cons rfl (fun K hK => ?_) AllReadyH.nil
              go_simp
              go_at_call 38
              refine (joined1_at' y8 g8 u a8 hy7).mono ?_
              rintro r7 w7 ⟨rfl, hb⟩
              go_wp2_with fail
              refine hK.out _ _ (HS.out _ (i.up hb)) (fun _ => ?_)
              clear hK K hHeld
              try simp only [Act.put, List.setIfInBounds_toArray, List.set_cons_zero, List.set_cons_succ]
              refine rw.region_w (fun u => (InQ w w1 q A B u) ∧ (rw.At u g5 #[.string x8] 9) ∧ (rw.At u p #[.int .i64 0, .int .i64 0, .string ⟨#[]⟩, .string ⟨#[]⟩] 26) ∧ (rw.At u g8 #[.string y8] 9)) ⟨i.up hb, a5.up hb, kk.up hb, a8.up hb⟩ ?_
              clear i a5 kk a8 hb
              rintro u ⟨i, a5, kk, a8⟩
              have hHeld : (u.cell? ⟨q, 0, none⟩ = some (.int .i64 A) ∧ u.cell? ⟨q, 1, none⟩ = some (.int .i64 B)) := HS.out u i
              refine wpAnyH_take (i := 10) (oi := { dst := some 47, op := Op.build 26 #[(0, Operand.tmp 38), (1, Operand.tmp 40), (2, Operand.tmp 43), (3, Operand.tmp 46)], type := 26, pos := "l08_policy.go:151", after := #[{ on := 1, ground := Ground.data }, { on := 3, ground := Ground.data }, { on := 6, ground := Ground.data }, { on := 9, ground := Ground.data }], guard := none }) (v := ?_) rfl (by kernel_rfl) (by kernel_rfl) (by kernel_rfl) (fun _ _ _ h => h) (Or.inl ⟨by rfl, ?_⟩) hHeld ?_
              rotate_left
              · rintro w ⟨z0, z1⟩; go_simp; (try with_reducible rfl)
              try simp only [Act.put, List.setIfInBounds_toArray, List.set_cons_zero, List.set_cons_succ]
              refine wpAnyH_ready (rs := [12]) (by kernel_rfl) (by simp) ?_
              refine AllReadyH.cons rfl (fun K hK => ?_) AllReadyH.nil
              have c0 : u.cell? ⟨p, 0, none⟩ = some (.int .i64 0) := kk.cell 0
              have c1 : u.cell? ⟨p, 1, none⟩ = some (.int .i64 0) := kk.cell 1
              have c2 : u.cell? ⟨p, 2, none⟩ = some (.string ⟨#[]⟩) := kk.cell 2
              have c3 : u.cell? ⟨p, 3, none⟩ = some (.string ⟨#[]⟩) := kk.cell 3
              have f0 := fun k => kk.frozen k
              go_simp
              refine hK.out _ _ (HS.out _ (((((i.set np 0 (.int .i64 A)).set np 1 (.int .i64 B)).set np 2 (.string x8)).set np 3 (.string y8)))) (fun _ => ?_)
              clear hK K hHeld
              try simp only [Act.put, List.setIfInBounds_toArray, List.set_cons_zero, List.set_cons_succ]
              refine rw.region_w (fun u => (InQ w w1 q A B u) ∧ (rw.At u g5 #[.string x8] 9) ∧ (rw.At u p #[.int .i64 A, .int .i64 B, .string x8, .string y8] 26) ∧ (rw.At u g8 #[.string y8] 9)) ⟨((((i.set np 0 (.int .i64 A)).set np 1 (.int .i64 B)).set np 2 (.string x8)).set np 3 (.string y8)), (rw.At.far (rw.At.far (rw.At.far (rw.At.far a5 (by omega) 0 (.int .i64 A)) (by omega) 1 (.int .i64 B)) (by omega) 2 (.string x8)) (by omega) 3 (.string y8)), (rw.At.set (rw.At.set (rw.At.set (rw.At.set kk 0 (.int .i64 A)) 1 (.int .i64 B)) 2 (.string x8)) 3 (.string y8)), (rw.At.far (rw.At.far (rw.At.far (rw.At.far a8 (by omega) 0 (.int .i64 A)) (by omega) 1 (.int .i64 B)) (by omega) 2 (.string x8)) (by omega) 3 (.string y8))⟩ ?_
              clear i a5 kk a8 c0 c1 c2 c3 f0
              rintro u ⟨i, a5, kk, a8⟩
              have hHeld : (u.cell? ⟨q, 0, none⟩ = some (.int .i64 A) ∧ u.cell? ⟨q, 1, none⟩ = some (.int .i64 B)) := HS.out u i
              refine wpAnyH_done (by kernel_rfl) ?_ _
              refine NoPanic.normal ?_
              exact KEY.out p g5 g8 u ⟨⟨i.1.1.1, by have := i.1.2.1; omega⟩, i.1.1.2.1, kk⟩
        · skip
          go_simp
          refine hK.out _ _ (HS.out _ (i.up (rw.up_alloc _ _))) (fun _ => ?_)
          clear hK K hHeld
          try simp only [Act.put, List.setIfInBounds_toArray, List.set_cons_zero, List.set_cons_succ]
          obtain ⟨g8, hg8⟩ : ∃ g8, g8 = u.heap.size := ⟨_, rfl⟩
          rw [← hg8]
          have ng8 : q < g8 := by rw [hg8]; exact i.2.lt
          refine rw.region_w (fun u => (InQ w w1 q A B u) ∧ (rw.At u g8 #[.string y8] 9)) ⟨i.up (rw.up_alloc _ _), by rw [hg8]; exact rw.At.new _ _ _⟩ ?_
          clear i
          rintro u ⟨i, a8⟩
          have hHeld : (u.cell? ⟨q, 0, none⟩ = some (.int .i64 A) ∧ u.cell? ⟨q, 1, none⟩ = some (.int .i64 B)) := HS.out u i
          clear hg8
          refine wpAnyH_ready (rs := [5, 11]) (by kernel_rfl) (by simp) ?_
          refine AllReadyH.cons rfl (fun K hK => ?_) (AllReadyH.cons rfl (fun K hK => ?_) AllReadyH.nil)
          · skip
            go_simp
            refine hK.out _ _ (HS.out _ (i.up (rw.up_alloc _ _))) (fun _ => ?_)
            clear hK K hHeld
            try simp only [Act.put, List.setIfInBounds_toArray, List.set_cons_zero, List.set_cons_succ]
            obtain ⟨g5, hg5⟩ : ∃ g5, g5 = u.heap.size := ⟨_, rfl⟩
            rw [← hg5]
            have ng5 : q < g5 := by rw [hg5]; exact i.2.lt
            have ng5g8 : g8 < g5 := by rw [hg5]; exact a8.lt
            refine rw.region_w (fun u => (InQ w w1 q A B u) ∧ (rw.At u g8 #[.string y8] 9) ∧ (rw.At u g5 #[.string x8] 9)) ⟨i.up (rw.up_alloc _ _), a8.up (rw.up_alloc _ _), by rw [hg5]; exact rw.At.new _ _ _⟩ ?_
            clear i a8
            rintro u ⟨i, a8, a5⟩
            have hHeld : (u.cell? ⟨q, 0, none⟩ = some (.int .i64 A) ∧ u.cell? ⟨q, 1, none⟩ = some (.int .i64 B)) := HS.out u i
            clear hg5
            refine wpAnyH_ready (rs := [6, 11]) (by kernel_rfl) (by simp) ?_
            refine AllReadyH.cons rfl (fun K hK => ?_) (AllReadyH.cons rfl (fun K hK => ?_) AllReadyH.nil)
            · skip
              go_simp
              go_at_call 38
              refine (joined1_at' x8 g5 u a5 hx7).mono ?_
              rintro r7 w7 ⟨rfl, hb⟩
              go_wp2_with fail
              refine hK.out _ _ (HS.out _ (i.up hb)) (fun _ => ?_)
              clear hK K hHeld
              try simp only [Act.put, List.setIfInBounds_toArray, List.set_cons_zero, List.set_cons_succ]
              refine rw.region_w (fun u => (InQ w w1 q A B u) ∧ (rw.At u g8 #[.string y8] 9) ∧ (rw.At u g5 #[.string x8] 9)) ⟨i.up hb, a8.up hb, a5.up hb⟩ ?_
              clear i a8 a5 hb
              rintro u ⟨i, a8, a5⟩
              have hHeld : (u.cell? ⟨q, 0, none⟩ = some (.int .i64 A) ∧ u.cell? ⟨q, 1, none⟩ = some (.int .i64 B)) := HS.out u i
              refine wpAnyH_ready (rs := [9, 11]) (by kernel_rfl) (by simp) ?_
              refine AllReadyH.cons rfl (fun K hK => ?_) (AllReadyH.cons rfl (fun K hK => ?_) AllReadyH.nil)
              · skip
                go_simp
                go_at_call 38
                refine (joined1_at' y8 g8 u a8 hy7).mono ?_
                rintro r7 w7 ⟨rfl, hb⟩
                go_wp2_with fail
                refine hK.out _ _ (HS.out _ (i.up hb)) (fun _ => ?_)
                clear hK K hHeld
                try simp only [Act.put, List.setIfInBounds_toArray, List.set_cons_zero, List.set_cons_succ]
                refine rw.region_w (fun u => (InQ w w1 q A B u) ∧ (rw.At u g8 #[.string y8] 9) ∧ (rw.At u g5 #[.string x8] 9)) ⟨i.up hb, a8.up hb, a5.up hb⟩ ?_
                clear i a8 a5 hb
                rintro u ⟨i, a8, a5⟩
                have hHeld : (u.cell? ⟨q, 0, none⟩ = some (.int .i64 A) ∧ u.cell? ⟨q, 1, none⟩ = some (.int .i64 B)) := HS.out u i
                refine wpAnyH_take (i := 10) (oi := { dst := some 47, op := Op.build 26 #[(0, Operand.tmp 38), (1, Operand.tmp 40), (2, Operand.tmp 43), (3, Operand.tmp 46)], type := 26, pos := "l08_policy.go:151", after := #[{ on := 1, ground := Ground.data }, { on := 3, ground := Ground.data }, { on := 6, ground := Ground.data }, { on := 9, ground := Ground.data }], guard := none }) (v := ?_) rfl (by kernel_rfl) (by kernel_rfl) (by kernel_rfl) (fun _ _ _ h => h) (Or.inl ⟨by rfl, ?_⟩) hHeld ?_
                rotate_left
                · rintro w ⟨z0, z1⟩; go_simp; (try with_reducible rfl)
                try simp only [Act.put, List.setIfInBounds_toArray, List.set_cons_zero, List.set_cons_succ]
                refine wpAnyH_ready (rs := [11]) (by kernel_rfl) (by simp) ?_
                refine AllReadyH.cons rfl (fun K hK => ?_) AllReadyH.nil
                go_simp
                refine hK.out _ _ (HS.out _ (i.up (rw.up_alloc _ _))) (fun _ => ?_)
                clear hK K hHeld
                try simp only [Act.put, List.setIfInBounds_toArray, List.set_cons_zero, List.set_cons_succ]
                obtain ⟨p, hp⟩ : ∃ p, p = u.heap.size := ⟨_, rfl⟩
                rw [← hp]
                have np : q < p := by rw [hp]; exact i.2.lt
                have npg8 : g8 < p := by rw [hp]; exact a8.lt
                have npg5 : g5 < p := by rw [hp]; exact a5.lt
                refine rw.region_w (fun u => (InQ w w1 q A B u) ∧ (rw.At u g8 #[.string y8] 9) ∧ (rw.At u g5 #[.string x8] 9) ∧ (rw.At u p #[.int .i64 0, .int .i64 0, .string ⟨#[]⟩, .string ⟨#[]⟩] 26)) ⟨i.up (rw.up_alloc _ _), a8.up (rw.up_alloc _ _), a5.up (rw.up_alloc _ _), by rw [hp]; exact rw.At.new _ _ _⟩ ?_
                clear i a8 a5
                rintro u ⟨i, a8, a5, kk⟩
                have hHeld : (u.cell? ⟨q, 0, none⟩ = some (.int .i64 A) ∧ u.cell? ⟨q, 1, none⟩ = some (.int .i64 B)) := HS.out u i
                clear hp
                refine wpAnyH_ready (rs := [12]) (by kernel_rfl) (by simp) ?_
                refine AllReadyH.cons rfl (fun K hK => ?_) AllReadyH.nil
                have c0 : u.cell? ⟨p, 0, none⟩ = some (.int .i64 0) := kk.cell 0
                have c1 : u.cell? ⟨p, 1, none⟩ = some (.int .i64 0) := kk.cell 1
                have c2 : u.cell? ⟨p, 2, none⟩ = some (.string ⟨#[]⟩) := kk.cell 2
                have c3 : u.cell? ⟨p, 3, none⟩ = some (.string ⟨#[]⟩) := kk.cell 3
                have f0 := fun k => kk.frozen k
                go_simp
                refine hK.out _ _ (HS.out _ (((((i.set np 0 (.int .i64 A)).set np 1 (.int .i64 B)).set np 2 (.string x8)).set np 3 (.string y8)))) (fun _ => ?_)
                clear hK K hHeld
                try simp only [Act.put, List.setIfInBounds_toArray, List.set_cons_zero, List.set_cons_succ]
                refine rw.region_w (fun u => (InQ w w1 q A B u) ∧ (rw.At u g8 #[.string y8] 9) ∧ (rw.At u g5 #[.string x8] 9) ∧ (rw.At u p #[.int .i64 A, .int .i64 B, .string x8, .string y8] 26)) ⟨((((i.set np 0 (.int .i64 A)).set np 1 (.int .i64 B)).set np 2 (.string x8)).set np 3 (.string y8)), (rw.At.far (rw.At.far (rw.At.far (rw.At.far a8 (by omega) 0 (.int .i64 A)) (by omega) 1 (.int .i64 B)) (by omega) 2 (.string x8)) (by omega) 3 (.string y8)), (rw.At.far (rw.At.far (rw.At.far (rw.At.far a5 (by omega) 0 (.int .i64 A)) (by omega) 1 (.int .i64 B)) (by omega) 2 (.string x8)) (by omega) 3 (.string y8)), (rw.At.set (rw.At.set (rw.At.set (rw.At.set kk 0 (.int .i64 A)) 1 (.int .i64 B)) 2 (.string x8)) 3 (.string y8))⟩ ?_
                clear i a8 a5 kk c0 c1 c2 c3 f0
                rintro u ⟨i, a8, a5, kk⟩
                have hHeld : (u.cell? ⟨q, 0, none⟩ = some (.int .i64 A) ∧ u.cell? ⟨q, 1, none⟩ = some (.int .i64 B)) := HS.out u i
                refine wpAnyH_done (by kernel_rfl) ?_ _
                refine NoPanic.normal ?_
                exact KEY.out p g5 g8 u ⟨⟨i.1.1.1, by have := i.1.2.1; omega⟩, i.1.1.2.1, kk⟩
              · skip
                go_simp
                refine hK.out _ _ (HS.out _ (i.up (rw.up_alloc _ _))) (fun _ => ?_)
                clear hK K hHeld
                try simp only [Act.put, List.setIfInBounds_toArray, List.set_cons_zero, List.set_cons_succ]
                obtain ⟨p, hp⟩ : ∃ p, p = u.heap.size := ⟨_, rfl⟩
                rw [← hp]
                have np : q < p := by rw [hp]; exact i.2.lt
                have npg8 : g8 < p := by rw [hp]; exact a8.lt
                have npg5 : g5 < p := by rw [hp]; exact a5.lt
                refine rw.region_w (fun u => (InQ w w1 q A B u) ∧ (rw.At u g8 #[.string y8] 9) ∧ (rw.At u g5 #[.string x8] 9) ∧ (rw.At u p #[.int .i64 0, .int .i64 0, .string ⟨#[]⟩, .string ⟨#[]⟩] 26)) ⟨i.up (rw.up_alloc _ _), a8.up (rw.up_alloc _ _), a5.up (rw.up_alloc _ _), by rw [hp]; exact rw.At.new _ _ _⟩ ?_
                clear i a8 a5
                rintro u ⟨i, a8, a5, kk⟩
                have hHeld : (u.cell? ⟨q, 0, none⟩ = some (.int .i64 A) ∧ u.cell? ⟨q, 1, none⟩ = some (.int .i64 B)) := HS.out u i
                clear hp
                refine wpAnyH_ready (rs := [9]) (by kernel_rfl) (by simp) ?_
                refine AllReadyH.cons rfl (fun K hK => ?_) AllReadyH.nil
                go_simp
                go_at_call 38
                refine (joined1_at' y8 g8 u a8 hy7).mono ?_
                rintro r7 w7 ⟨rfl, hb⟩
                go_wp2_with fail
                refine hK.out _ _ (HS.out _ (i.up hb)) (fun _ => ?_)
                clear hK K hHeld
                try simp only [Act.put, List.setIfInBounds_toArray, List.set_cons_zero, List.set_cons_succ]
                refine rw.region_w (fun u => (InQ w w1 q A B u) ∧ (rw.At u g8 #[.string y8] 9) ∧ (rw.At u g5 #[.string x8] 9) ∧ (rw.At u p #[.int .i64 0, .int .i64 0, .string ⟨#[]⟩, .string ⟨#[]⟩] 26)) ⟨i.up hb, a8.up hb, a5.up hb, kk.up hb⟩ ?_
                clear i a8 a5 kk hb
                rintro u ⟨i, a8, a5, kk⟩
                have hHeld : (u.cell? ⟨q, 0, none⟩ = some (.int .i64 A) ∧ u.cell? ⟨q, 1, none⟩ = some (.int .i64 B)) := HS.out u i
                refine wpAnyH_take (i := 10) (oi := { dst := some 47, op := Op.build 26 #[(0, Operand.tmp 38), (1, Operand.tmp 40), (2, Operand.tmp 43), (3, Operand.tmp 46)], type := 26, pos := "l08_policy.go:151", after := #[{ on := 1, ground := Ground.data }, { on := 3, ground := Ground.data }, { on := 6, ground := Ground.data }, { on := 9, ground := Ground.data }], guard := none }) (v := ?_) rfl (by kernel_rfl) (by kernel_rfl) (by kernel_rfl) (fun _ _ _ h => h) (Or.inl ⟨by rfl, ?_⟩) hHeld ?_
                rotate_left
                · rintro w ⟨z0, z1⟩; go_simp; (try with_reducible rfl)
                try simp only [Act.put, List.setIfInBounds_toArray, List.set_cons_zero, List.set_cons_succ]
                refine wpAnyH_ready (rs := [12]) (by kernel_rfl) (by simp) ?_
                refine AllReadyH.cons rfl (fun K hK => ?_) AllReadyH.nil
                have c0 : u.cell? ⟨p, 0, none⟩ = some (.int .i64 0) := kk.cell 0
                have c1 : u.cell? ⟨p, 1, none⟩ = some (.int .i64 0) := kk.cell 1
                have c2 : u.cell? ⟨p, 2, none⟩ = some (.string ⟨#[]⟩) := kk.cell 2
                have c3 : u.cell? ⟨p, 3, none⟩ = some (.string ⟨#[]⟩) := kk.cell 3
                have f0 := fun k => kk.frozen k
                go_simp
                refine hK.out _ _ (HS.out _ (((((i.set np 0 (.int .i64 A)).set np 1 (.int .i64 B)).set np 2 (.string x8)).set np 3 (.string y8)))) (fun _ => ?_)
                clear hK K hHeld
                try simp only [Act.put, List.setIfInBounds_toArray, List.set_cons_zero, List.set_cons_succ]
                refine rw.region_w (fun u => (InQ w w1 q A B u) ∧ (rw.At u g8 #[.string y8] 9) ∧ (rw.At u g5 #[.string x8] 9) ∧ (rw.At u p #[.int .i64 A, .int .i64 B, .string x8, .string y8] 26)) ⟨((((i.set np 0 (.int .i64 A)).set np 1 (.int .i64 B)).set np 2 (.string x8)).set np 3 (.string y8)), (rw.At.far (rw.At.far (rw.At.far (rw.At.far a8 (by omega) 0 (.int .i64 A)) (by omega) 1 (.int .i64 B)) (by omega) 2 (.string x8)) (by omega) 3 (.string y8)), (rw.At.far (rw.At.far (rw.At.far (rw.At.far a5 (by omega) 0 (.int .i64 A)) (by omega) 1 (.int .i64 B)) (by omega) 2 (.string x8)) (by omega) 3 (.string y8)), (rw.At.set (rw.At.set (rw.At.set (rw.At.set kk 0 (.int .i64 A)) 1 (.int .i64 B)) 2 (.string x8)) 3 (.string y8))⟩ ?_
                clear i a8 a5 kk c0 c1 c2 c3 f0
                rintro u ⟨i, a8, a5, kk⟩
                have hHeld : (u.cell? ⟨q, 0, none⟩ = some (.int .i64 A) ∧ u.cell? ⟨q, 1, none⟩ = some (.int .i64 B)) := HS.out u i
                refine wpAnyH_done (by kernel_rfl) ?_ _
                refine NoPanic.normal ?_
                exact KEY.out p g5 g8 u ⟨⟨i.1.1.1, by have := i.1.2.1; omega⟩, i.1.1.2.1, kk⟩
            · skip
              go_simp
              refine hK.out _ _ (HS.out _ (i.up (rw.up_alloc _ _))) (fun _ => ?_)
              clear hK K hHeld
              try simp only [Act.put, List.setIfInBounds_toArray, List.set_cons_zero, List.set_cons_succ]
              obtain ⟨p, hp⟩ : ∃ p, p = u.heap.size := ⟨_, rfl⟩
              rw [← hp]
              have np : q < p := by rw [hp]; exact i.2.lt
              have npg8 : g8 < p := by rw [hp]; exact a8.lt
              have npg5 : g5 < p := by rw [hp]; exact a5.lt
              refine rw.region_w (fun u => (InQ w w1 q A B u) ∧ (rw.At u g8 #[.string y8] 9) ∧ (rw.At u g5 #[.string x8] 9) ∧ (rw.At u p #[.int .i64 0, .int .i64 0, .string ⟨#[]⟩, .string ⟨#[]⟩] 26)) ⟨i.up (rw.up_alloc _ _), a8.up (rw.up_alloc _ _), a5.up (rw.up_alloc _ _), by rw [hp]; exact rw.At.new _ _ _⟩ ?_
              clear i a8 a5
              rintro u ⟨i, a8, a5, kk⟩
              have hHeld : (u.cell? ⟨q, 0, none⟩ = some (.int .i64 A) ∧ u.cell? ⟨q, 1, none⟩ = some (.int .i64 B)) := HS.out u i
              clear hp
              refine wpAnyH_ready (rs := [6]) (by kernel_rfl) (by simp) ?_
              refine AllReadyH.cons rfl (fun K hK => ?_) AllReadyH.nil
              go_simp
              go_at_call 38
              refine (joined1_at' x8 g5 u a5 hx7).mono ?_
              rintro r7 w7 ⟨rfl, hb⟩
              go_wp2_with fail
              refine hK.out _ _ (HS.out _ (i.up hb)) (fun _ => ?_)
              clear hK K hHeld
              try simp only [Act.put, List.setIfInBounds_toArray, List.set_cons_zero, List.set_cons_succ]
              refine rw.region_w (fun u => (InQ w w1 q A B u) ∧ (rw.At u g8 #[.string y8] 9) ∧ (rw.At u g5 #[.string x8] 9) ∧ (rw.At u p #[.int .i64 0, .int .i64 0, .string ⟨#[]⟩, .string ⟨#[]⟩] 26)) ⟨i.up hb, a8.up hb, a5.up hb, kk.up hb⟩ ?_
              clear i a8 a5 kk hb
              rintro u ⟨i, a8, a5, kk⟩
              have hHeld : (u.cell? ⟨q, 0, none⟩ = some (.int .i64 A) ∧ u.cell? ⟨q, 1, none⟩ = some (.int .i64 B)) := HS.out u i
              refine wpAnyH_ready (rs := [9]) (by kernel_rfl) (by simp) ?_
              refine AllReadyH.cons rfl (fun K hK => ?_) AllReadyH.nil
              go_simp
              go_at_call 38
              refine (joined1_at' y8 g8 u a8 hy7).mono ?_
              rintro r7 w7 ⟨rfl, hb⟩
              go_wp2_with fail
              refine hK.out _ _ (HS.out _ (i.up hb)) (fun _ => ?_)
              clear hK K hHeld
              try simp only [Act.put, List.setIfInBounds_toArray, List.set_cons_zero, List.set_cons_succ]
              refine rw.region_w (fun u => (InQ w w1 q A B u) ∧ (rw.At u g8 #[.string y8] 9) ∧ (rw.At u g5 #[.string x8] 9) ∧ (rw.At u p #[.int .i64 0, .int .i64 0, .string ⟨#[]⟩, .string ⟨#[]⟩] 26)) ⟨i.up hb, a8.up hb, a5.up hb, kk.up hb⟩ ?_
              clear i a8 a5 kk hb
              rintro u ⟨i, a8, a5, kk⟩
              have hHeld : (u.cell? ⟨q, 0, none⟩ = some (.int .i64 A) ∧ u.cell? ⟨q, 1, none⟩ = some (.int .i64 B)) := HS.out u i
              refine wpAnyH_take (i := 10) (oi := { dst := some 47, op := Op.build 26 #[(0, Operand.tmp 38), (1, Operand.tmp 40), (2, Operand.tmp 43), (3, Operand.tmp 46)], type := 26, pos := "l08_policy.go:151", after := #[{ on := 1, ground := Ground.data }, { on := 3, ground := Ground.data }, { on := 6, ground := Ground.data }, { on := 9, ground := Ground.data }], guard := none }) (v := ?_) rfl (by kernel_rfl) (by kernel_rfl) (by kernel_rfl) (fun _ _ _ h => h) (Or.inl ⟨by rfl, ?_⟩) hHeld ?_
              rotate_left
              · rintro w ⟨z0, z1⟩; go_simp; (try with_reducible rfl)
              try simp only [Act.put, List.setIfInBounds_toArray, List.set_cons_zero, List.set_cons_succ]
              refine wpAnyH_ready (rs := [12]) (by kernel_rfl) (by simp) ?_
              refine AllReadyH.cons rfl (fun K hK => ?_) AllReadyH.nil
              have c0 : u.cell? ⟨p, 0, none⟩ = some (.int .i64 0) := kk.cell 0
              have c1 : u.cell? ⟨p, 1, none⟩ = some (.int .i64 0) := kk.cell 1
              have c2 : u.cell? ⟨p, 2, none⟩ = some (.string ⟨#[]⟩) := kk.cell 2
              have c3 : u.cell? ⟨p, 3, none⟩ = some (.string ⟨#[]⟩) := kk.cell 3
              have f0 := fun k => kk.frozen k
              go_simp
              refine hK.out _ _ (HS.out _ (((((i.set np 0 (.int .i64 A)).set np 1 (.int .i64 B)).set np 2 (.string x8)).set np 3 (.string y8)))) (fun _ => ?_)
              clear hK K hHeld
              try simp only [Act.put, List.setIfInBounds_toArray, List.set_cons_zero, List.set_cons_succ]
              refine rw.region_w (fun u => (InQ w w1 q A B u) ∧ (rw.At u g8 #[.string y8] 9) ∧ (rw.At u g5 #[.string x8] 9) ∧ (rw.At u p #[.int .i64 A, .int .i64 B, .string x8, .string y8] 26)) ⟨((((i.set np 0 (.int .i64 A)).set np 1 (.int .i64 B)).set np 2 (.string x8)).set np 3 (.string y8)), (rw.At.far (rw.At.far (rw.At.far (rw.At.far a8 (by omega) 0 (.int .i64 A)) (by omega) 1 (.int .i64 B)) (by omega) 2 (.string x8)) (by omega) 3 (.string y8)), (rw.At.far (rw.At.far (rw.At.far (rw.At.far a5 (by omega) 0 (.int .i64 A)) (by omega) 1 (.int .i64 B)) (by omega) 2 (.string x8)) (by omega) 3 (.string y8)), (rw.At.set (rw.At.set (rw.At.set (rw.At.set kk 0 (.int .i64 A)) 1 (.int .i64 B)) 2 (.string x8)) 3 (.string y8))⟩ ?_
              clear i a8 a5 kk c0 c1 c2 c3 f0
              rintro u ⟨i, a8, a5, kk⟩
              have hHeld : (u.cell? ⟨q, 0, none⟩ = some (.int .i64 A) ∧ u.cell? ⟨q, 1, none⟩ = some (.int .i64 B)) := HS.out u i
              refine wpAnyH_done (by kernel_rfl) ?_ _
              refine NoPanic.normal ?_
              exact KEY.out p g5 g8 u ⟨⟨i.1.1.1, by have := i.1.2.1; omega⟩, i.1.1.2.1, kk⟩
          · skip
            go_simp
            refine hK.out _ _ (HS.out _ (i.up (rw.up_alloc _ _))) (fun _ => ?_)
            clear hK K hHeld
            try simp only [Act.put, List.setIfInBounds_toArray, List.set_cons_zero, List.set_cons_succ]
            obtain ⟨p, hp⟩ : ∃ p, p = u.heap.size := ⟨_, rfl⟩
            rw [← hp]
            have np : q < p := by rw [hp]; exact i.2.lt
            have npg8 : g8 < p := by rw [hp]; exact a8.lt
            refine rw.region_w (fun u => (InQ w w1 q A B u) ∧ (rw.At u g8 #[.string y8] 9) ∧ (rw.At u p #[.int .i64 0, .int .i64 0, .string ⟨#[]⟩, .string ⟨#[]⟩] 26)) ⟨i.up (rw.up_alloc _ _), a8.up (rw.up_alloc _ _), by rw [hp]; exact rw.At.new _ _ _⟩ ?_
            clear i a8
            rintro u ⟨i, a8, kk⟩
            have hHeld : (u.cell? ⟨q, 0, none⟩ = some (.int .i64 A) ∧ u.cell? ⟨q, 1, none⟩ = some (.int .i64 B)) := HS.out u i
            clear hp
            refine wpAnyH_ready (rs := [5]) (by kernel_rfl) (by simp) ?_
            refine AllReadyH.cons rfl (fun K hK => ?_) AllReadyH.nil
            go_simp
            refine hK.out _ _ (HS.out _ (i.up (rw.up_alloc _ _))) (fun _ => ?_)
            clear hK K hHeld
            try simp only [Act.put, List.setIfInBounds_toArray, List.set_cons_zero, List.set_cons_succ]
            obtain ⟨g5, hg5⟩ : ∃ g5, g5 = u.heap.size := ⟨_, rfl⟩
            rw [← hg5]
            have ng5 : q < g5 := by rw [hg5]; exact i.2.lt
            have ng5g8 : g8 < g5 := by rw [hg5]; exact a8.lt
            have ng5p : p < g5 := by rw [hg5]; exact kk.lt
            refine rw.region_w (fun u => (InQ w w1 q A B u) ∧ (rw.At u g8 #[.string y8] 9) ∧ (rw.At u p #[.int .i64 0, .int .i64 0, .string ⟨#[]⟩, .string ⟨#[]⟩] 26) ∧ (rw.At u g5 #[.string x8] 9)) ⟨i.up (rw.up_alloc _ _), a8.up (rw.up_alloc _ _), kk.up (rw.up_alloc _ _), by rw [hg5]; exact rw.At.new _ _ _⟩ ?_
            clear i a8 kk
            rintro u ⟨i, a8, kk, a5⟩
            have hHeld : (u.cell? ⟨q, 0, none⟩ = some (.int .i64 A) ∧ u.cell? ⟨q, 1, none⟩ = some (.int .i64 B)) := HS.out u i
            clear hg5
            refine wpAnyH_ready (rs := [6]) (by kernel_rfl) (by simp) ?_
            refine AllReadyH.cons rfl (fun K hK => ?_) AllReadyH.nil
            go_simp
            go_at_call 38
            refine (joined1_at' x8 g5 u a5 hx7).mono ?_
            rintro r7 w7 ⟨rfl, hb⟩
            go_wp2_with fail
            refine hK.out _ _ (HS.out _ (i.up hb)) (fun _ => ?_)
            clear hK K hHeld
            try simp only [Act.put, List.setIfInBounds_toArray, List.set_cons_zero, List.set_cons_succ]
            refine rw.region_w (fun u => (InQ w w1 q A B u) ∧ (rw.At u g8 #[.string y8] 9) ∧ (rw.At u p #[.int .i64 0, .int .i64 0, .string ⟨#[]⟩, .string ⟨#[]⟩] 26) ∧ (rw.At u g5 #[.string x8] 9)) ⟨i.up hb, a8.up hb, kk.up hb, a5.up hb⟩ ?_
            clear i a8 kk a5 hb
            rintro u ⟨i, a8, kk, a5⟩
            have hHeld : (u.cell? ⟨q, 0, none⟩ = some (.int .i64 A) ∧ u.cell? ⟨q, 1, none⟩ = some (.int .i64 B)) := HS.out u i
            refine wpAnyH_ready (rs := [9]) (by kernel_rfl) (by simp) ?_
            refine AllReadyH.cons rfl (fun K hK => ?_) AllReadyH.nil
            go_simp
            go_at_call 38
            refine (joined1_at' y8 g8 u a8 hy7).mono ?_
            rintro r7 w7 ⟨rfl, hb⟩
            go_wp2_with fail
            refine hK.out _ _ (HS.out _ (i.up hb)) (fun _ => ?_)
            clear hK K hHeld
            try simp only [Act.put, List.setIfInBounds_toArray, List.set_cons_zero, List.set_cons_succ]
            refine rw.region_w (fun u => (InQ w w1 q A B u) ∧ (rw.At u g8 #[.string y8] 9) ∧ (rw.At u p #[.int .i64 0, .int .i64 0, .string ⟨#[]⟩, .string ⟨#[]⟩] 26) ∧ (rw.At u g5 #[.string x8] 9)) ⟨i.up hb, a8.up hb, kk.up hb, a5.up hb⟩ ?_
            clear i a8 kk a5 hb
            rintro u ⟨i, a8, kk, a5⟩
            have hHeld : (u.cell? ⟨q, 0, none⟩ = some (.int .i64 A) ∧ u.cell? ⟨q, 1, none⟩ = some (.int .i64 B)) := HS.out u i
            refine wpAnyH_take (i := 10) (oi := { dst := some 47, op := Op.build 26 #[(0, Operand.tmp 38), (1, Operand.tmp 40), (2, Operand.tmp 43), (3, Operand.tmp 46)], type := 26, pos := "l08_policy.go:151", after := #[{ on := 1, ground := Ground.data }, { on := 3, ground := Ground.data }, { on := 6, ground := Ground.data }, { on := 9, ground := Ground.data }], guard := none }) (v := ?_) rfl (by kernel_rfl) (by kernel_rfl) (by kernel_rfl) (fun _ _ _ h => h) (Or.inl ⟨by rfl, ?_⟩) hHeld ?_
            rotate_left
            · rintro w ⟨z0, z1⟩; go_simp; (try with_reducible rfl)
            try simp only [Act.put, List.setIfInBounds_toArray, List.set_cons_zero, List.set_cons_succ]
            refine wpAnyH_ready (rs := [12]) (by kernel_rfl) (by simp) ?_
            refine AllReadyH.cons rfl (fun K hK => ?_) AllReadyH.nil
            have c0 : u.cell? ⟨p, 0, none⟩ = some (.int .i64 0) := kk.cell 0
            have c1 : u.cell? ⟨p, 1, none⟩ = some (.int .i64 0) := kk.cell 1
            have c2 : u.cell? ⟨p, 2, none⟩ = some (.string ⟨#[]⟩) := kk.cell 2
            have c3 : u.cell? ⟨p, 3, none⟩ = some (.string ⟨#[]⟩) := kk.cell 3
            have f0 := fun k => kk.frozen k
            go_simp
            refine hK.out _ _ (HS.out _ (((((i.set np 0 (.int .i64 A)).set np 1 (.int .i64 B)).set np 2 (.string x8)).set np 3 (.string y8)))) (fun _ => ?_)
            clear hK K hHeld
            try simp only [Act.put, List.setIfInBounds_toArray, List.set_cons_zero, List.set_cons_succ]
            refine rw.region_w (fun u => (InQ w w1 q A B u) ∧ (rw.At u g8 #[.string y8] 9) ∧ (rw.At u p #[.int .i64 A, .int .i64 B, .string x8, .string y8] 26) ∧ (rw.At u g5 #[.string x8] 9)) ⟨((((i.set np 0 (.int .i64 A)).set np 1 (.int .i64 B)).set np 2 (.string x8)).set np 3 (.string y8)), (rw.At.far (rw.At.far (rw.At.far (rw.At.far a8 (by omega) 0 (.int .i64 A)) (by omega) 1 (.int .i64 B)) (by omega) 2 (.string x8)) (by omega) 3 (.string y8)), (rw.At.set (rw.At.set (rw.At.set (rw.At.set kk 0 (.int .i64 A)) 1 (.int .i64 B)) 2 (.string x8)) 3 (.string y8)), (rw.At.far (rw.At.far (rw.At.far (rw.At.far a5 (by omega) 0 (.int .i64 A)) (by omega) 1 (.int .i64 B)) (by omega) 2 (.string x8)) (by omega) 3 (.string y8))⟩ ?_
            clear i a8 kk a5 c0 c1 c2 c3 f0
            rintro u ⟨i, a8, kk, a5⟩
            have hHeld : (u.cell? ⟨q, 0, none⟩ = some (.int .i64 A) ∧ u.cell? ⟨q, 1, none⟩ = some (.int .i64 B)) := HS.out u i
            refine wpAnyH_done (by kernel_rfl) ?_ _
            refine NoPanic.normal ?_
            exact KEY.out p g5 g8 u ⟨⟨i.1.1.1, by have := i.1.2.1; omega⟩, i.1.1.2.1, kk⟩
        · skip
          go_simp
          refine hK.out _ _ (HS.out _ (i.up (rw.up_alloc _ _))) (fun _ => ?_)
          clear hK K hHeld
          try simp only [Act.put, List.setIfInBounds_toArray, List.set_cons_zero, List.set_cons_succ]
          obtain ⟨p, hp⟩ : ∃ p, p = u.heap.size := ⟨_, rfl⟩
          rw [← hp]
          have np : q < p := by rw [hp]; exact i.2.lt
          refine rw.region_w (fun u => (InQ w w1 q A B u) ∧ (rw.At u p #[.int .i64 0, .int .i64 0, .string ⟨#[]⟩, .string ⟨#[]⟩] 26)) ⟨i.up (rw.up_alloc _ _), by rw [hp]; exact rw.At.new _ _ _⟩ ?_
          clear i
          rintro u ⟨i, kk⟩
          have hHeld : (u.cell? ⟨q, 0, none⟩ = some (.int .i64 A) ∧ u.cell? ⟨q, 1, none⟩ = some (.int .i64 B)) := HS.out u i
          clear hp
          refine wpAnyH_ready (rs := [5, 8]) (by kernel_rfl) (by simp) ?_
          refine AllReadyH.cons rfl (fun K hK => ?_) (AllReadyH.cons rfl (fun K hK => ?_) AllReadyH.nil)
          · skip
            go_simp
            refine hK.out _ _ (HS.out _ (i.up (rw.up_alloc _ _))) (fun _ => ?_)
            clear hK K hHeld
            try simp only [Act.put, List.setIfInBounds_toArray, List.set_cons_zero, List.set_cons_succ]
            obtain ⟨g5, hg5⟩ : ∃ g5, g5 = u.heap.size := ⟨_, rfl⟩
            rw [← hg5]
            have ng5 : q < g5 := by rw [hg5]; exact i.2.lt
            have ng5p : p < g5 := by rw [hg5]; exact kk.lt
            refine rw.region_w (fun u => (InQ w w1 q A B u) ∧ (rw.At u p #[.int .i64 0, .int .i64 0, .string ⟨#[]⟩, .string ⟨#[]⟩] 26) ∧ (rw.At u g5 #[.string x8] 9)) ⟨i.up (rw.up_alloc _ _), kk.up (rw.up_alloc _ _), by rw [hg5]; exact rw.At.new _ _ _⟩ ?_
            clear i kk
            rintro u ⟨i, kk, a5⟩
            have hHeld : (u.cell? ⟨q, 0, none⟩ = some (.int .i64 A) ∧ u.cell? ⟨q, 1, none⟩ = some (.int .i64 B)) := HS.out u i
            clear hg5
            refine wpAnyH_ready (rs := [6, 8]) (by kernel_rfl) (by simp) ?_
            refine AllReadyH.cons rfl (fun K hK => ?_) (AllReadyH.cons rfl (fun K hK => ?_) AllReadyH.nil)
            · skip
              go_simp
              go_at_call 38
              refine (joined1_at' x8 g5 u a5 hx7).mono ?_
              rintro r7 w7 ⟨rfl, hb⟩
              go_wp2_with fail
              refine hK.out _ _ (HS.out _ (i.up hb)) (fun _ => ?_)
              clear hK K hHeld
              try simp only [Act.put, List.setIfInBounds_toArray, List.set_cons_zero, List.set_cons_succ]
              refine rw.region_w (fun u => (InQ w w1 q A B u) ∧ (rw.At u p #[.int .i64 0, .int .i64 0, .string ⟨#[]⟩, .string ⟨#[]⟩] 26) ∧ (rw.At u g5 #[.string x8] 9)) ⟨i.up hb, kk.up hb, a5.up hb⟩ ?_
              clear i kk a5 hb
              rintro u ⟨i, kk, a5⟩
              have hHeld : (u.cell? ⟨q, 0, none⟩ = some (.int .i64 A) ∧ u.cell? ⟨q, 1, none⟩ = some (.int .i64 B)) := HS.out u i
              refine wpAnyH_ready (rs := [8]) (by kernel_rfl) (by simp) ?_
              refine AllReadyH.cons rfl (fun K hK => ?_) AllReadyH.nil
              go_simp
              refine hK.out _ _ (HS.out _ (i.up (rw.up_alloc _ _))) (fun _ => ?_)
              clear hK K hHeld
              try simp only [Act.put, List.setIfInBounds_toArray, List.set_cons_zero, List.set_cons_succ]
              obtain ⟨g8, hg8⟩ : ∃ g8, g8 = u.heap.size := ⟨_, rfl⟩
              rw [← hg8]
              have ng8 : q < g8 := by rw [hg8]; exact i.2.lt
              have ng8p : p < g8 := by rw [hg8]; exact kk.lt
              have ng8g5 : g5 < g8 := by rw [hg8]; exact a5.lt
              refine rw.region_w (fun u => (InQ w w1 q A B u) ∧ (rw.At u p #[.int .i64 0, .int .i64 0, .string ⟨#[]⟩, .string ⟨#[]⟩] 26) ∧ (rw.At u g5 #[.string x8] 9) ∧ (rw.At u g8 #[.string y8] 9)) ⟨i.up (rw.up_alloc _ _), kk.up (rw.up_alloc _ _), a5.up (rw.up_alloc _ _), by rw [hg8]; exact rw.At.new _ _ _⟩ ?_
              clear i kk a5
              rintro u ⟨i, kk, a5, a8⟩
              have hHeld : (u.cell? ⟨q, 0, none⟩ = some (.int .i64 A) ∧ u.cell? ⟨q, 1, none⟩ = some (.int .i64 B)) := HS.out u i
              clear hg8
              refine wpAnyH_ready (rs := [9]) (by kernel_rfl) (by simp) ?_
              refine AllReadyH.cons rfl (fun K hK => ?_) AllReadyH.nil
              go_simp
              go_at_call 38
              refine (joined1_at' y8 g8 u a8 hy7).mono ?_
              rintro r7 w7 ⟨rfl, hb⟩
              go_wp2_with fail
              refine hK.out _ _ (HS.out _ (i.up hb)) (fun _ => ?_)
              clear hK K hHeld
              try simp only [Act.put, List.setIfInBounds_toArray, List.set_cons_zero, List.set_cons_succ]
              refine rw.region_w (fun u => (InQ w w1 q A B u) ∧ (rw.At u p #[.int .i64 0, .int .i64 0, .string ⟨#[]⟩, .string ⟨#[]⟩] 26) ∧ (rw.At u g5 #[.string x8] 9) ∧ (rw.At u g8 #[.string y8] 9)) ⟨i.up hb, kk.up hb, a5.up hb, a8.up hb⟩ ?_
              clear i kk a5 a8 hb
              rintro u ⟨i, kk, a5, a8⟩
              have hHeld : (u.cell? ⟨q, 0, none⟩ = some (.int .i64 A) ∧ u.cell? ⟨q, 1, none⟩ = some (.int .i64 B)) := HS.out u i
              refine wpAnyH_take (i := 10) (oi := { dst := some 47, op := Op.build 26 #[(0, Operand.tmp 38), (1, Operand.tmp 40), (2, Operand.tmp 43), (3, Operand.tmp 46)], type := 26, pos := "l08_policy.go:151", after := #[{ on := 1, ground := Ground.data }, { on := 3, ground := Ground.data }, { on := 6, ground := Ground.data }, { on := 9, ground := Ground.data }], guard := none }) (v := ?_) rfl (by kernel_rfl) (by kernel_rfl) (by kernel_rfl) (fun _ _ _ h => h) (Or.inl ⟨by rfl, ?_⟩) hHeld ?_
              rotate_left
              · rintro w ⟨z0, z1⟩; go_simp; (try with_reducible rfl)
              try simp only [Act.put, List.setIfInBounds_toArray, List.set_cons_zero, List.set_cons_succ]
              refine wpAnyH_ready (rs := [12]) (by kernel_rfl) (by simp) ?_
              refine AllReadyH.cons rfl (fun K hK => ?_) AllReadyH.nil
              have c0 : u.cell? ⟨p, 0, none⟩ = some (.int .i64 0) := kk.cell 0
              have c1 : u.cell? ⟨p, 1, none⟩ = some (.int .i64 0) := kk.cell 1
              have c2 : u.cell? ⟨p, 2, none⟩ = some (.string ⟨#[]⟩) := kk.cell 2
              have c3 : u.cell? ⟨p, 3, none⟩ = some (.string ⟨#[]⟩) := kk.cell 3
              have f0 := fun k => kk.frozen k
              go_simp
              refine hK.out _ _ (HS.out _ (((((i.set np 0 (.int .i64 A)).set np 1 (.int .i64 B)).set np 2 (.string x8)).set np 3 (.string y8)))) (fun _ => ?_)
              clear hK K hHeld
              try simp only [Act.put, List.setIfInBounds_toArray, List.set_cons_zero, List.set_cons_succ]
              refine rw.region_w (fun u => (InQ w w1 q A B u) ∧ (rw.At u p #[.int .i64 A, .int .i64 B, .string x8, .string y8] 26) ∧ (rw.At u g5 #[.string x8] 9) ∧ (rw.At u g8 #[.string y8] 9)) ⟨((((i.set np 0 (.int .i64 A)).set np 1 (.int .i64 B)).set np 2 (.string x8)).set np 3 (.string y8)), (rw.At.set (rw.At.set (rw.At.set (rw.At.set kk 0 (.int .i64 A)) 1 (.int .i64 B)) 2 (.string x8)) 3 (.string y8)), (rw.At.far (rw.At.far (rw.At.far (rw.At.far a5 (by omega) 0 (.int .i64 A)) (by omega) 1 (.int .i64 B)) (by omega) 2 (.string x8)) (by omega) 3 (.string y8)), (rw.At.far (rw.At.far (rw.At.far (rw.At.far a8 (by omega) 0 (.int .i64 A)) (by omega) 1 (.int .i64 B)) (by omega) 2 (.string x8)) (by omega) 3 (.string y8))⟩ ?_
              clear i kk a5 a8 c0 c1 c2 c3 f0
              rintro u ⟨i, kk, a5, a8⟩
              have hHeld : (u.cell? ⟨q, 0, none⟩ = some (.int .i64 A) ∧ u.cell? ⟨q, 1, none⟩ = some (.int .i64 B)) := HS.out u i
              refine wpAnyH_done (by kernel_rfl) ?_ _
              refine NoPanic.normal ?_
              exact KEY.out p g5 g8 u ⟨⟨i.1.1.1, by have := i.1.2.1; omega⟩, i.1.1.2.1, kk⟩
            · skip
              go_simp
              refine hK.out _ _ (HS.out _ (i.up (rw.up_alloc _ _))) (fun _ => ?_)
              clear hK K hHeld
              try simp only [Act.put, List.setIfInBounds_toArray, List.set_cons_zero, List.set_cons_succ]
              obtain ⟨g8, hg8⟩ : ∃ g8, g8 = u.heap.size := ⟨_, rfl⟩
              rw [← hg8]
              have ng8 : q < g8 := by rw [hg8]; exact i.2.lt
              have ng8p : p < g8 := by rw [hg8]; exact kk.lt
              have ng8g5 : g5 < g8 := by rw [hg8]; exact a5.lt
              refine rw.region_w (fun u => (InQ w w1 q A B u) ∧ (rw.At u p #[.int .i64 0, .int .i64 0, .string ⟨#[]⟩, .string ⟨#[]⟩] 26) ∧ (rw.At u g5 #[.string x8] 9) ∧ (rw.At u g8 #[.string y8] 9)) ⟨i.up (rw.up_alloc _ _), kk.up (rw.up_alloc _ _), a5.up (rw.up_alloc _ _), by rw [hg8]; exact rw.At.new _ _ _⟩ ?_
              clear i kk a5
              rintro u ⟨i, kk, a5, a8⟩
              have hHeld : (u.cell? ⟨q, 0, none⟩ = some (.int .i64 A) ∧ u.cell? ⟨q, 1, none⟩ = some (.int .i64 B)) := HS.out u i
              clear hg8
              refine wpAnyH_ready (rs := [6]) (by kernel_rfl) (by simp) ?_
              refine AllReadyH.cons rfl (fun K hK => ?_) AllReadyH.nil
              go_simp
              go_at_call 38
              refine (joined1_at' x8 g5 u a5 hx7).mono ?_
              rintro r7 w7 ⟨rfl, hb⟩
              go_wp2_with fail
              refine hK.out _ _ (HS.out _ (i.up hb)) (fun _ => ?_)
              clear hK K hHeld
              try simp only [Act.put, List.setIfInBounds_toArray, List.set_cons_zero, List.set_cons_succ]
              refine rw.region_w (fun u => (InQ w w1 q A B u) ∧ (rw.At u p #[.int .i64 0, .int .i64 0, .string ⟨#[]⟩, .string ⟨#[]⟩] 26) ∧ (rw.At u g5 #[.string x8] 9) ∧ (rw.At u g8 #[.string y8] 9)) ⟨i.up hb, kk.up hb, a5.up hb, a8.up hb⟩ ?_
              clear i kk a5 a8 hb
              rintro u ⟨i, kk, a5, a8⟩
              have hHeld : (u.cell? ⟨q, 0, none⟩ = some (.int .i64 A) ∧ u.cell? ⟨q, 1, none⟩ = some (.int .i64 B)) := HS.out u i
              refine wpAnyH_ready (rs := [9]) (by kernel_rfl) (by simp) ?_
              refine AllReadyH.cons rfl (fun K hK => ?_) AllReadyH.nil
              go_simp
              go_at_call 38
              refine (joined1_at' y8 g8 u a8 hy7).mono ?_
              rintro r7 w7 ⟨rfl, hb⟩
              go_wp2_with fail
              refine hK.out _ _ (HS.out _ (i.up hb)) (fun _ => ?_)
              clear hK K hHeld
              try simp only [Act.put, List.setIfInBounds_toArray, List.set_cons_zero, List.set_cons_succ]
              refine rw.region_w (fun u => (InQ w w1 q A B u) ∧ (rw.At u p #[.int .i64 0, .int .i64 0, .string ⟨#[]⟩, .string ⟨#[]⟩] 26) ∧ (rw.At u g5 #[.string x8] 9) ∧ (rw.At u g8 #[.string y8] 9)) ⟨i.up hb, kk.up hb, a5.up hb, a8.up hb⟩ ?_
              clear i kk a5 a8 hb
              rintro u ⟨i, kk, a5, a8⟩
              have hHeld : (u.cell? ⟨q, 0, none⟩ = some (.int .i64 A) ∧ u.cell? ⟨q, 1, none⟩ = some (.int .i64 B)) := HS.out u i
              refine wpAnyH_take (i := 10) (oi := { dst := some 47, op := Op.build 26 #[(0, Operand.tmp 38), (1, Operand.tmp 40), (2, Operand.tmp 43), (3, Operand.tmp 46)], type := 26, pos := "l08_policy.go:151", after := #[{ on := 1, ground := Ground.data }, { on := 3, ground := Ground.data }, { on := 6, ground := Ground.data }, { on := 9, ground := Ground.data }], guard := none }) (v := ?_) rfl (by kernel_rfl) (by kernel_rfl) (by kernel_rfl) (fun _ _ _ h => h) (Or.inl ⟨by rfl, ?_⟩) hHeld ?_
              rotate_left
              · rintro w ⟨z0, z1⟩; go_simp; (try with_reducible rfl)
              try simp only [Act.put, List.setIfInBounds_toArray, List.set_cons_zero, List.set_cons_succ]
              refine wpAnyH_ready (rs := [12]) (by kernel_rfl) (by simp) ?_
              refine AllReadyH.cons rfl (fun K hK => ?_) AllReadyH.nil
              have c0 : u.cell? ⟨p, 0, none⟩ = some (.int .i64 0) := kk.cell 0
              have c1 : u.cell? ⟨p, 1, none⟩ = some (.int .i64 0) := kk.cell 1
              have c2 : u.cell? ⟨p, 2, none⟩ = some (.string ⟨#[]⟩) := kk.cell 2
              have c3 : u.cell? ⟨p, 3, none⟩ = some (.string ⟨#[]⟩) := kk.cell 3
              have f0 := fun k => kk.frozen k
              go_simp
              refine hK.out _ _ (HS.out _ (((((i.set np 0 (.int .i64 A)).set np 1 (.int .i64 B)).set np 2 (.string x8)).set np 3 (.string y8)))) (fun _ => ?_)
              clear hK K hHeld
              try simp only [Act.put, List.setIfInBounds_toArray, List.set_cons_zero, List.set_cons_succ]
              refine rw.region_w (fun u => (InQ w w1 q A B u) ∧ (rw.At u p #[.int .i64 A, .int .i64 B, .string x8, .string y8] 26) ∧ (rw.At u g5 #[.string x8] 9) ∧ (rw.At u g8 #[.string y8] 9)) ⟨((((i.set np 0 (.int .i64 A)).set np 1 (.int .i64 B)).set np 2 (.string x8)).set np 3 (.string y8)), (rw.At.set (rw.At.set (rw.At.set (rw.At.set kk 0 (.int .i64 A)) 1 (.int .i64 B)) 2 (.string x8)) 3 (.string y8)), (rw.At.far (rw.At.far (rw.At.far (rw.At.far a5 (by omega) 0 (.int .i64 A)) (by omega) 1 (.int .i64 B)) (by omega) 2 (.string x8)) (by omega) 3 (.string y8)), (rw.At.far (rw.At.far (rw.At.far (rw.At.far a8 (by omega) 0 (.int .i64 A)) (by omega) 1 (.int .i64 B)) (by omega) 2 (.string x8)) (by omega) 3 (.string y8))⟩ ?_
              clear i kk a5 a8 c0 c1 c2 c3 f0
              rintro u ⟨i, kk, a5, a8⟩
              have hHeld : (u.cell? ⟨q, 0, none⟩ = some (.int .i64 A) ∧ u.cell? ⟨q, 1, none⟩ = some (.int .i64 B)) := HS.out u i
              refine wpAnyH_done (by kernel_rfl) ?_ _
              refine NoPanic.normal ?_
              exact KEY.out p g5 g8 u ⟨⟨i.1.1.1, by have := i.1.2.1; omega⟩, i.1.1.2.1, kk⟩
          · skip
            go_simp
            refine hK.out _ _ (HS.out _ (i.up (rw.up_alloc _ _))) (fun _ => ?_)
            clear hK K hHeld
            try simp only [Act.put, List.setIfInBounds_toArray, List.set_cons_zero, List.set_cons_succ]
            obtain ⟨g8, hg8⟩ : ∃ g8, g8 = u.heap.size := ⟨_, rfl⟩
            rw [← hg8]
            have ng8 : q < g8 := by rw [hg8]; exact i.2.lt
            have ng8p : p < g8 := by rw [hg8]; exact kk.lt
            refine rw.region_w (fun u => (InQ w w1 q A B u) ∧ (rw.At u p #[.int .i64 0, .int .i64 0, .string ⟨#[]⟩, .string ⟨#[]⟩] 26) ∧ (rw.At u g8 #[.string y8] 9)) ⟨i.up (rw.up_alloc _ _), kk.up (rw.up_alloc _ _), by rw [hg8]; exact rw.At.new _ _ _⟩ ?_
            clear i kk
            rintro u ⟨i, kk, a8⟩
            have hHeld : (u.cell? ⟨q, 0, none⟩ = some (.int .i64 A) ∧ u.cell? ⟨q, 1, none⟩ = some (.int .i64 B)) := HS.out u i
            clear hg8
            refine wpAnyH_ready (rs := [5]) (by kernel_rfl) (by simp) ?_
            refine AllReadyH.cons rfl (fun K hK => ?_) AllReadyH.nil
            go_simp
            refine hK.out _ _ (HS.out _ (i.up (rw.up_alloc _ _))) (fun _ => ?_)
            clear hK K hHeld
            try simp only [Act.put, List.setIfInBounds_toArray, List.set_cons_zero, List.set_cons_succ]
            obtain ⟨g5, hg5⟩ : ∃ g5, g5 = u.heap.size := ⟨_, rfl⟩
            rw [← hg5]
            have ng5 : q < g5 := by rw [hg5]; exact i.2.lt
            have ng5p : p < g5 := by rw [hg5]; exact kk.lt
            have ng5g8 : g8 < g5 := by rw [hg5]; exact a8.lt
            refine rw.region_w (fun u => (InQ w w1 q A B u) ∧ (rw.At u p #[.int .i64 0, .int .i64 0, .string ⟨#[]⟩, .string ⟨#[]⟩] 26) ∧ (rw.At u g8 #[.string y8] 9) ∧ (rw.At u g5 #[.string x8] 9)) ⟨i.up (rw.up_alloc _ _), kk.up (rw.up_alloc _ _), a8.up (rw.up_alloc _ _), by rw [hg5]; exact rw.At.new _ _ _⟩ ?_
            clear i kk a8
            rintro u ⟨i, kk, a8, a5⟩
            have hHeld : (u.cell? ⟨q, 0, none⟩ = some (.int .i64 A) ∧ u.cell? ⟨q, 1, none⟩ = some (.int .i64 B)) := HS.out u i
            clear hg5
            refine wpAnyH_ready (rs := [6]) (by kernel_rfl) (by simp) ?_
            refine AllReadyH.cons rfl (fun K hK => ?_) AllReadyH.nil
            go_simp
            go_at_call 38
            refine (joined1_at' x8 g5 u a5 hx7).mono ?_
            rintro r7 w7 ⟨rfl, hb⟩
            go_wp2_with fail
            refine hK.out _ _ (HS.out _ (i.up hb)) (fun _ => ?_)
            clear hK K hHeld
            try simp only [Act.put, List.setIfInBounds_toArray, List.set_cons_zero, List.set_cons_succ]
            refine rw.region_w (fun u => (InQ w w1 q A B u) ∧ (rw.At u p #[.int .i64 0, .int .i64 0, .string ⟨#[]⟩, .string ⟨#[]⟩] 26) ∧ (rw.At u g8 #[.string y8] 9) ∧ (rw.At u g5 #[.string x8] 9)) ⟨i.up hb, kk.up hb, a8.up hb, a5.up hb⟩ ?_
            clear i kk a8 a5 hb
            rintro u ⟨i, kk, a8, a5⟩
            have hHeld : (u.cell? ⟨q, 0, none⟩ = some (.int .i64 A) ∧ u.cell? ⟨q, 1, none⟩ = some (.int .i64 B)) := HS.out u i
            refine wpAnyH_ready (rs := [9]) (by kernel_rfl) (by simp) ?_
            refine AllReadyH.cons rfl (fun K hK => ?_) AllReadyH.nil
            go_simp
            go_at_call 38
            refine (joined1_at' y8 g8 u a8 hy7).mono ?_
            rintro r7 w7 ⟨rfl, hb⟩
            go_wp2_with fail
            refine hK.out _ _ (HS.out _ (i.up hb)) (fun _ => ?_)
            clear hK K hHeld
            try simp only [Act.put, List.setIfInBounds_toArray, List.set_cons_zero, List.set_cons_succ]
            refine rw.region_w (fun u => (InQ w w1 q A B u) ∧ (rw.At u p #[.int .i64 0, .int .i64 0, .string ⟨#[]⟩, .string ⟨#[]⟩] 26) ∧ (rw.At u g8 #[.string y8] 9) ∧ (rw.At u g5 #[.string x8] 9)) ⟨i.up hb, kk.up hb, a8.up hb, a5.up hb⟩ ?_
            clear i kk a8 a5 hb
            rintro u ⟨i, kk, a8, a5⟩
            have hHeld : (u.cell? ⟨q, 0, none⟩ = some (.int .i64 A) ∧ u.cell? ⟨q, 1, none⟩ = some (.int .i64 B)) := HS.out u i
            refine wpAnyH_take (i := 10) (oi := { dst := some 47, op := Op.build 26 #[(0, Operand.tmp 38), (1, Operand.tmp 40), (2, Operand.tmp 43), (3, Operand.tmp 46)], type := 26, pos := "l08_policy.go:151", after := #[{ on := 1, ground := Ground.data }, { on := 3, ground := Ground.data }, { on := 6, ground := Ground.data }, { on := 9, ground := Ground.data }], guard := none }) (v := ?_) rfl (by kernel_rfl) (by kernel_rfl) (by kernel_rfl) (fun _ _ _ h => h) (Or.inl ⟨by rfl, ?_⟩) hHeld ?_
            rotate_left
            · rintro w ⟨z0, z1⟩; go_simp; (try with_reducible rfl)
            try simp only [Act.put, List.setIfInBounds_toArray, List.set_cons_zero, List.set_cons_succ]
            refine wpAnyH_ready (rs := [12]) (by kernel_rfl) (by simp) ?_
            refine AllReadyH.cons rfl (fun K hK => ?_) AllReadyH.nil
            have c0 : u.cell? ⟨p, 0, none⟩ = some (.int .i64 0) := kk.cell 0
            have c1 : u.cell? ⟨p, 1, none⟩ = some (.int .i64 0) := kk.cell 1
            have c2 : u.cell? ⟨p, 2, none⟩ = some (.string ⟨#[]⟩) := kk.cell 2
            have c3 : u.cell? ⟨p, 3, none⟩ = some (.string ⟨#[]⟩) := kk.cell 3
            have f0 := fun k => kk.frozen k
            go_simp
            refine hK.out _ _ (HS.out _ (((((i.set np 0 (.int .i64 A)).set np 1 (.int .i64 B)).set np 2 (.string x8)).set np 3 (.string y8)))) (fun _ => ?_)
            clear hK K hHeld
            try simp only [Act.put, List.setIfInBounds_toArray, List.set_cons_zero, List.set_cons_succ]
            refine rw.region_w (fun u => (InQ w w1 q A B u) ∧ (rw.At u p #[.int .i64 A, .int .i64 B, .string x8, .string y8] 26) ∧ (rw.At u g8 #[.string y8] 9) ∧ (rw.At u g5 #[.string x8] 9)) ⟨((((i.set np 0 (.int .i64 A)).set np 1 (.int .i64 B)).set np 2 (.string x8)).set np 3 (.string y8)), (rw.At.set (rw.At.set (rw.At.set (rw.At.set kk 0 (.int .i64 A)) 1 (.int .i64 B)) 2 (.string x8)) 3 (.string y8)), (rw.At.far (rw.At.far (rw.At.far (rw.At.far a8 (by omega) 0 (.int .i64 A)) (by omega) 1 (.int .i64 B)) (by omega) 2 (.string x8)) (by omega) 3 (.string y8)), (rw.At.far (rw.At.far (rw.At.far (rw.At.far a5 (by omega) 0 (.int .i64 A)) (by omega) 1 (.int .i64 B)) (by omega) 2 (.string x8)) (by omega) 3 (.string y8))⟩ ?_
            clear i kk a8 a5 c0 c1 c2 c3 f0
            rintro u ⟨i, kk, a8, a5⟩
            have hHeld : (u.cell? ⟨q, 0, none⟩ = some (.int .i64 A) ∧ u.cell? ⟨q, 1, none⟩ = some (.int .i64 B)) := HS.out u i
            refine wpAnyH_done (by kernel_rfl) ?_ _
            refine NoPanic.normal ?_
            exact KEY.out p g5 g8 u ⟨⟨i.1.1.1, by have := i.1.2.1; omega⟩, i.1.1.2.1, kk⟩
      · have hcp := fun u => cutp_no (p := wordB A B ++ one 32) (fun r h => hb ⟨r, h⟩) u htm hP
        have HN3 : Hid (∀ j', j' < j + 1 → ¬ Beg t (verA j') (verB j')) := HN2.out hb
        rw [← hW] at hjo hcp hws
        obtain ⟨P, hPP⟩ : ∃ P, P = W ++ one 32 := ⟨_, rfl⟩
        rw [← hPP] at hjo hcp
        unfold one at hjo
        clear hP hw7 hPP HN2 htm hb hW
        have i : InI w w1 wr := HU.out
        clear HU
        go_wp2_with (first | ((with_reducible refine (hws _).mono ?_); rintro r7 ua ⟨rfl, hb⟩; replace i := i.up hb; clear hb) | (go_at_call 38; (with_reducible refine (hjo _).mono ?_); rintro r7 ub ⟨rfl, hb⟩; replace i := i.up hb; clear hb) | (go_at_call 61; (with_reducible refine (hcp _).mono ?_); rintro r7 uz ⟨rfl, hb⟩; obtain rfl := hb.symm) | (go_at_call 49; (with_reducible refine (hv _).mono ?_); rintro r7 uc ⟨rfl, hb⟩; replace i := i.up hb; clear hb) | (go_at_call 42; fail))
        have HI : Hid (InI w w1 _) := i
        clear i hv hmet hent hws hjo hcp cx
        exact ⟨⟨j + 1, by omega, by go_num, HN3, HI⟩, by simp [intOf]; omega⟩
    · obtain rfl : j = 5 := by omega
      have HF : Hid (LineIs t ln0 false) := ⟨fun h => by simp at h, fun _ => no_line fun j' h => HN.out j' h⟩
      have i : InI w w1 wr := HU.out
      have c0 := i.2.1.cell 0
      have c1 := i.2.1.cell 1
      have c2 := i.2.1.cell 2
      have c3 := i.2.1.cell 3
      have f0 := fun k => i.2.1.frozen k
      have HZ : Hid _ := i.zero
      clear HN HU i
      go_wp2
      obtain ⟨d1, d2⟩ := HZ.out
      exact bodyPost_ret (res_rule Tryd.results43 _ _ w.heap.size _ _ rfl rfl d2 rfl) rfl ⟨⟨ln0, false, rfl, HF.out⟩, d1⟩
end Go.Proofs.YtndjjhcdnlkekaaDoor.cu
