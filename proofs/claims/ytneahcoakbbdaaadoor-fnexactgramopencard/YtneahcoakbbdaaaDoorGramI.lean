/-
  The program's gramOf and openedGram at every key and text: what the plain function tells; no old block turns. Conditions: the two tables and the four errors lie in their variables.
-/
import Derived.Test.YtneahcoakbbdaaaDoorMg9
import Derived.Test.YtneahcoakbbdaaaDoorGramS
import Derived.Test.YtneahcoakbbdaaaDoorReadNum
import Derived.Test.YtneahcoakbbdaaaDoorMg11
import Derived.Test.YtneahcoakbbdaaaDoorMg3
namespace Go.Proofs.YtneahcoakbbdaaaDoor.gm
open Go.ChangeShapes Go.WideShapes Go.ChangeAt Go.RowKit
open Go.Proofs.YtneahcoakbbdaaaDoor.wi (RightG gramI_any gramM_any heap_lt wp_w calls_w)
open Go.Proofs.YtneahcoakbbdaaaDoor.np (getV numV)
open Classical
set_option linter.unusedVariables false

theorem wrap_in {x : Int} (h : -9223372036854775808 ≤ x ∧ x ≤ 9223372036854775807) : wrap64 x = x := by
  have := IntKind.wrap_i64 x
  first | (unfold wrap64; omega) | (simp only [wrap64]; omega)
theorem tmod_range {n : Int} (m : Int) (h : pn.i64P n) (hm : 0 < m ∧ m ≤ 100000) : -9223372036854775808 ≤ n.tmod m ∧ n.tmod m ≤ 9223372036854775807 := by
  have h1 := Int.tmod_lt_of_pos n hm.1
  have h2 := Int.lt_tmod_of_pos n hm.1
  omega

set_option maxHeartbeats 8000000 in
theorem gramOf_any (n : Int) (w : World) (hn : pn.i64P n) :
    Calls Tryd.prog 69 #[.int .i64 n] w fun r w' => r = .returned (.agg #[.int .i64 (gS n), .int .i64 (gE n), .int .i64 (gC n), .string ⟨#[]⟩]) ∧ Below w.heap.size w w' := by
  have hr := g_range hn
  have e1 : wrap64 (n.tdiv 2001) = n.tdiv 2001 := wrap_in hr.2
  have e2 : wrap64 ((n.tdiv 2001).tdiv 201) = gS n := wrap_in hr.1
  have e3 : wrap64 ((n.tdiv 2001).tmod 201) = gE n := wrap_in (tmod_range 201 hr.2 (by omega))
  have e4 : wrap64 (n.tmod 2001) = gC n := wrap_in (tmod_range 2001 hn (by omega))
  have HB : Hid (∀ o, Below w.heap.size w (w.alloc o)) := fun o => (Below.refl _ _).alloc (Nat.le_refl _) o
  go_enter Tryd.func69, Tryd.ntmps69
  go_wp2
  exact bodyPost_ret (results_cell_row Tryd.results69 _ _ w.heap.size _ _ _ _ rfl (heap_alloc_new _ _) Tryd.underlying28 rfl infoG) rfl ⟨rfl, HB.out _⟩

theorem set4 {u : World} {q : Nat} {a b c d x y z k : Value} {T : TypeId} (h : u.heap[q]? = some (.cells #[a, b, c, d] T (0, 0))) : ((((u.setCell ⟨q, 0, none⟩ x).setCell ⟨q, 1, none⟩ y).setCell ⟨q, 2, none⟩ z).setCell ⟨q, 3, none⟩ k).heap[q]? = some (.cells #[x, y, z, k] T (0, 0)) := by
  have h1 := heap_setCell_same u q 0 _ _ x h
  have h2 := heap_setCell_same _ q 1 _ _ y h1
  have h3 := heap_setCell_same _ q 2 _ _ z h2
  have h4 := heap_setCell_same _ q 3 _ _ k h3
  exact h4
theorem below_set4 {w u : World} {q : Nat} {x y z k : Value} (h : Below w.heap.size w u) (hq : w.heap.size ≤ q) : Below w.heap.size w ((((u.setCell ⟨q, 0, none⟩ x).setCell ⟨q, 1, none⟩ y).setCell ⟨q, 2, none⟩ z).setCell ⟨q, 3, none⟩ k) := (((h.setCell hq _).setCell hq _).setCell hq _).setCell hq _
theorem gram_cells {u : World} {q : Nat} {a b c d : Value} {T : TypeId} (h : u.heap[q]? = some (.cells #[a, b, c, d] T (0, 0))) :
    (u.cell? ⟨q, 0, none⟩ = some a ∧ u.cell? ⟨q, 1, none⟩ = some b ∧ u.cell? ⟨q, 2, none⟩ = some c ∧ u.cell? ⟨q, 3, none⟩ = some d) ∧ (u.frozen? ⟨q, 0, none⟩ = false ∧ u.frozen? ⟨q, 1, none⟩ = false ∧ u.frozen? ⟨q, 2, none⟩ = false ∧ u.frozen? ⟨q, 3, none⟩ = false) := by
  refine ⟨⟨?_, ?_, ?_, ?_⟩, frozen_of_row _ _ _ _ _ h, frozen_of_row _ _ _ _ _ h, frozen_of_row _ _ _ _ _ h, frozen_of_row _ _ _ _ _ h⟩ <;> simp [World.cell?, h]
theorem res_two {fn : Func} {p k : Tmp} (h : fn.results = #[.cell p 28, .tmp k]) (tmps : Array Value) (u : World) (q : Nat) (cs : Array Value) (x : Value) (hp : tmps.getD p undef = .pointer (some ⟨q, 0, none⟩)) (hk : tmps.getD k undef = x) (hg : u.heap[q]? = some (.cells cs 28 (0, 0))) (hcs : cs.size = 4) :
    (results fn tmps).run Tryd.prog u = .ok (.tuple #[.agg cs, x]) u := by
  rw [results_cell_tmp h, hp, hk]
  simp [asAddr, Result.andThen, run_loadVar_row u q _ 28 cs (0, 0) _ hg Tryd.underlying28 rfl (by rw [infoG, hcs])]

/-- what openedGram answers: a gram, and an error of this code -/
def OpPost (w : World) (A : (Int × Int × Int × ByteArray) × Int) (r : Ending) (w' : World) : Prop :=
  Below w.heap.size w w' ∧ ∃ x, r = .returned (.tuple #[.agg #[.int .i64 A.1.1, .int .i64 A.1.2.1, .int .i64 A.1.2.2.1, .string A.1.2.2.2], x]) ∧ ∀ u', Below w.heap.size w u' → Calls Tryd.prog 45 #[x] u' fun e' w' => e' = .returned (.int .i64 A.2) ∧ Below u'.heap.size u' w'
/-- the answer's block, as it is made -/
def InO (w u : World) : Prop := Below w.heap.size w u ∧ u.heap[w.heap.size]? = some (.cells #[.int .i64 0, .int .i64 0, .int .i64 0, .string ⟨#[]⟩] 28 (0, 0))
theorem InO.up {w u u' : World} (h : InO w u) (hb : Below u.heap.size u u') : InO w u' := ⟨h.1.trans (hb.mono h.1.size), (hb.block _ (heap_lt h.2)).trans h.2⟩
theorem inO_start (w : World) : InO w (w.alloc (.cells #[.int .i64 0, .int .i64 0, .int .i64 0, .string ⟨#[]⟩] 28)) := ⟨(Below.refl _ _).alloc (Nat.le_refl _) _, heap_alloc_new _ _⟩

set_option maxHeartbeats 8000000 in
theorem opened_key (key text : ByteArray) (w : World) (hk : key.size ≤ 8000) (ht : text.size ≤ 8000) {a b c d : Addr} (hE : ei.Errs w a b c d) (h1 : ¬ KeyR key) :
    Calls Tryd.prog 44 #[.string key, .string text] w (OpPost w (noG 1)) := by
  have HK := fun u => keyI_any key u (Nat.le_trans hk (by decide))
  rw [decide_eq_false h1] at HK
  have HW : Hid (∀ u', Below w.heap.size w u' → Calls Tryd.prog 45 #[.iface 193 (.pointer (some a))] u' fun e' w' => e' = .returned (.int .i64 1) ∧ Below u'.heap.size u' w') := fun u' hu => (ei.why_a (hE.up hu)).mono fun e w' ⟨h, h'⟩ => ⟨h, by rw [h']; exact Below.refl _ _⟩
  have HV : Hid (∀ u, Below w.heap.size w u → u.cell? ⟨0, 0, none⟩ = some (.iface 193 (.pointer (some a)))) := fun u hu => (hE.up hu).va
  have hlt : 0 < w.heap.size := World.block_lt_of_cell? w _ hE.va
  have n1 : ¬ w.heap.size = 0 := by omega
  have n2 : ¬ 0 = w.heap.size := by omega
  clear hE hlt
  go_enter Tryd.func44, Tryd.ntmps44
  go_wp2_with (go_at_call 37; (with_reducible refine (HK _).mono ?_); rintro r w' ⟨rfl, hw'⟩; obtain rfl := hw'.symm)
  refine wp_w (InO w) (inO_start w) ?_
  intro u0 i0
  have va := HV.out _ i0.1
  obtain ⟨⟨c0, c1, c2, c3⟩, f0, f1, f2, f3⟩ := gram_cells i0.2
  have HI : Hid (InO w u0) := i0
  clear i0 HV HK hw'
  go_region
  go_wp2
  exact bodyPost_ret (res_two Tryd.results44 _ _ w.heap.size _ _ rfl rfl (set4 HI.out.2) rfl) rfl ⟨below_set4 HI.out.1.drew (Nat.le_refl _), _, rfl, HW.out⟩

theorem zero_wf : (Lit.int .i64 0).wf = true := by decide
theorem readNum_out (text : ByteArray) (n a c : Int) (hg : getV text 0 = (n, a, c)) (ht : text.size ≤ 8000) (w : World) :
    Calls Tryd.prog 68 #[.string text, .int .i64 0] w fun e w' => e = .returned (.tuple #[.int .i64 n, .int .i64 a, gi.errV c]) ∧ w' = w := by
  have := gi.readNum_any text 0 w ht zero_wf
  rwa [hg] at this

set_option maxHeartbeats 8000000 in
theorem opened_err (key text : ByteArray) (w : World) (hk : key.size ≤ 8000) (ht : text.size ≤ 8000) {a1 a2 a3 a4 : Addr} (hE : ei.Errs w a1 a2 a3 a4) (h1 : KeyR key) (n a c : Int) (hg : getV text 0 = (n, a, c)) (hc : c ≠ 0) :
    Calls Tryd.prog 44 #[.string key, .string text] w (OpPost w (noG 3)) := by
  have HK := fun u => keyI_any key u (Nat.le_trans hk (by decide))
  rw [decide_eq_true h1] at HK
  have HR := fun u => readNum_out text n a c hg ht u
  rw [show gi.errV c = .iface 98 (.agg #[.int .i64 c]) from if_neg hc] at HR
  have HW : Hid (∀ u', Below w.heap.size w u' → Calls Tryd.prog 45 #[.iface 193 (.pointer (some a2))] u' fun e' w' => e' = .returned (.int .i64 3) ∧ Below u'.heap.size u' w') := fun u' hu => (ei.why_b (hE.up hu)).mono fun e w' ⟨h, h'⟩ => ⟨h, by rw [h']; exact Below.refl _ _⟩
  have HV : Hid (∀ u, Below w.heap.size w u → u.cell? ⟨1, 0, none⟩ = some (.iface 193 (.pointer (some a2)))) := fun u hu => (hE.up hu).vb
  have hlt : 1 < w.heap.size := World.block_lt_of_cell? w _ hE.vb
  have n1 : ¬ w.heap.size = 1 := by omega
  have n2 : ¬ 1 = w.heap.size := by omega
  clear hE hlt hg
  go_enter Tryd.func44, Tryd.ntmps44
  go_wp2_with (first | (go_at_call 37; (with_reducible refine (HK _).mono ?_); rintro r w' ⟨rfl, hw'⟩; obtain rfl := hw'.symm) | (go_at_call 68; (with_reducible refine (HR _).mono ?_); rintro r w' ⟨rfl, hw'⟩; obtain rfl := hw'.symm))
  refine wp_w (InO w) (inO_start w) ?_
  intro u0 i0
  have va := HV.out _ i0.1
  obtain ⟨⟨c0, c1, c2, c3⟩, f0, f1, f2, f3⟩ := gram_cells i0.2
  have HI : Hid (InO w u0) := i0
  clear i0 HV HK HR
  go_region
  go_wp2
  exact bodyPost_ret (res_two Tryd.results44 _ _ w.heap.size _ _ rfl rfl (set4 HI.out.2) rfl) rfl ⟨below_set4 HI.out.1.drew (Nat.le_refl _), _, rfl, HW.out⟩

end Go.Proofs.YtneahcoakbbdaaaDoor.gm
