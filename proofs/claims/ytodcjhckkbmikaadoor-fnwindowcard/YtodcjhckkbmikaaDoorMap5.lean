/-
  A map whose keys are grams of an epoch and a count alone, by which of them it holds: what its operations and its range do. No condition.
-/
import Derived.Test.YtodcjhckkbmikaaDoorTake1
import Derived.Maps.RangeWalk
import Derived.Maps.OwnSet
import Derived.Maps.OwnOps
import Derived.DeepKeys4
namespace Go.Proofs.YtodcjhckkbmikaaDoor.wi
open Go.ChangeShapes Go.WideShapes Go.ChangeAt Go.RowKit
open Go.Maps (Keyed)
set_option linter.unusedVariables false

theorem laidOut5 : laidOutB Tryd.prog = true := by kernel_rfl
theorem rowG : (45 : TypeId) < Tryd.prog.types.size := of_decide_eq_true (by kernel_rfl)
theorem wideG : (match Tryd.prog.underlying 45 with | some (.array _ _) | some (.struct _) => true | _ => false) = true := by kernel_rfl
set_option maxRecDepth 100000 in
theorem keyedG : Keyed Tryd.prog 45 := Keyed.of_law (deep_law_laid laidOut5 (m := 3) (by omega) rowG (by kernel_rfl) wideG)
theorem zeroU (w : World) : (zeroValue 60).run Tryd.prog w = .ok (.agg #[]) w := by kernel_rfl

def W64 (x : Int) : Prop := (Lit.int .i64 x).wf = true
theorem w64_of {x : Int} (h0 : -9223372036854775808 ≤ x) (h1 : x ≤ 9223372036854775807) : W64 x := by
  simp [W64, Lit.wf, IntKind.min, IntKind.max, IntKind.signed, IntKind.bits, h0, h1]
/-- what a gram reads as, as a key -/
def kG (e c : Int) : Lit := .string (keyBytes [.int .i64 0, .int .i64 e, .int .i64 c, .string []])
theorem litsI (d : Nat) {x : Int} (h : W64 x) : Tryd.prog.keyLits (d + 1) 2 [.int .i64 x] = some [.int .i64 x] := by
  unfold W64 at h
  unfold Program.keyLits
  simp only [Tryd.underlying2, h, and_self, if_true]
theorem litsS (d : Nat) : Tryd.prog.keyLits (d + 1) 9 [.string ⟨#[]⟩] = some [.string []] := by
  unfold Program.keyLits
  simp only [Tryd.underlying9]
  rw [if_pos (show (⟨#[]⟩ : ByteArray).size ≤ maxLen from Nat.zero_le _)]
theorem c4G : Tryd.prog.cellsOf 45 = 4 := by kernel_rfl
theorem c1I : Tryd.prog.cellsOf 2 = 1 := by kernel_rfl
theorem c1S : Tryd.prog.cellsOf 9 = 1 := by kernel_rfl
theorem litsG (d : Nat) {e c : Int} (he : W64 e) (hc : W64 c) : Tryd.prog.keyLits (d + 1 + 1) 45 [.int .i64 0, .int .i64 e, .int .i64 c, .string ⟨#[]⟩] = some [.int .i64 0, .int .i64 e, .int .i64 c, .string []] := by
  have h0 : W64 0 := by unfold W64; decide
  unfold Program.keyLits
  rw [Tryd.underlying45]
  dsimp only
  rw [if_pos ⟨by rw [c4G]; rfl, by kernel_rfl⟩]
  simp only [List.mapM_cons, List.mapM_nil, c1I, c1S, List.drop_zero, List.drop_succ_cons, List.take_succ_cons, List.take_zero, litsI d h0, litsI d he, litsI d hc, litsS d, Option.pure_def, Option.bind_eq_bind, Option.bind_some, Option.map_some, List.flatten_cons, List.flatten_nil, List.cons_append, List.nil_append, List.append_nil]
theorem keyOf_gram {e c : Int} (he : W64 e) (hc : W64 c) : keyOf Tryd.prog 45 (gramV e c) = some (kG e c) := by
  have hk : Tryd.prog.keyType 45 = true := by kernel_rfl
  have hsz : ∃ d, Tryd.prog.types.size = d + 1 := ⟨158 - 1, by kernel_rfl⟩
  obtain ⟨d, hd⟩ := hsz
  have hf : (gramV e c).formed Tryd.prog 45 = true := by
    unfold Value.formed
    simp only [Tryd.underlying45]
    rw [c4G]; rfl
  unfold keyOf
  simp only [Tryd.underlying45, hk, hf, Bool.and_self, if_true, hd]
  rw [show (gramV e c).cells.toList = [.int .i64 0, .int .i64 e, .int .i64 c, .string ⟨#[]⟩] from rfl, litsG d he hc]
  rfl
theorem kG_inj {e c e' c' : Int} (he : W64 e) (hc : W64 c) (he' : W64 e') (hc' : W64 c') (h : kG e c = kG e' c') : e = e' ∧ c = c' := by
  have h1 := keyOf_gram he hc
  have h2 := keyOf_gram he' hc'
  rw [← h] at h2
  have := keyedG.inj h1 h2
  simpa using this
theorem kG_key (e c : Int) : WideAt.IsKeyLit (kG e c) := trivial

/-- all but one -/
def struck (L : Int → Int → Prop) (e c : Int) : Int → Int → Prop := fun e' c' => L e' c' ∧ ¬ (e' = e ∧ c' = c)
/-- one more -/
def added (M : Int → Int → Prop) (e c : Int) : Int → Int → Prop := fun e' c' => M e' c' ∨ (e' = e ∧ c' = c)
/-- which grams a map's keys are -/
def KeysAre (D : DataW Unit) (M : Int → Int → Prop) : Prop := ∀ kl, Maps.has D kl = true ↔ ∃ e c, (W64 e ∧ W64 c ∧ M e c) ∧ kl = kG e c
theorem keysAre_empty : KeysAre (.map []) (fun _ _ => False) := fun kl => by
  constructor
  · intro h; simp [Maps.has] at h
  · rintro ⟨e, c, ⟨_, _, h⟩, _⟩; exact h.elim
theorem KeysAre.at {D : DataW Unit} {M : Int → Int → Prop} (h : KeysAre D M) {e c : Int} (he : W64 e) (hc : W64 c) : Maps.has D (kG e c) = true ↔ M e c := by
  rw [h]
  constructor
  · rintro ⟨e', c', ⟨he', hc', hM⟩, hk⟩
    obtain ⟨rfl, rfl⟩ := kG_inj he hc he' hc' hk
    exact hM
  · intro hM; exact ⟨e, c, ⟨he, hc, hM⟩, rfl⟩
theorem KeysAre.put {D : DataW Unit} {M : Int → Int → Prop} (h : KeysAre D M) (hm : Maps.IsMap D) {e c : Int} (he : W64 e) (hc : W64 c) (d : DataW Unit) : KeysAre (D.put (kG e c) d) (added M e c) := fun kl => by
  by_cases hk : kl = kG e c
  · subst hk
    rw [Maps.has_put_same hm (kG_key e c)]
    exact ⟨fun _ => ⟨e, c, ⟨he, hc, .inr ⟨rfl, rfl⟩⟩, rfl⟩, fun _ => rfl⟩
  · rw [Maps.has_put_other hk, h]
    constructor
    · rintro ⟨e', c', ⟨a, b, m⟩, e1⟩; exact ⟨e', c', ⟨a, b, .inl m⟩, e1⟩
    · rintro ⟨e', c', ⟨a, b, m⟩, e1⟩
      rcases m with m | ⟨rfl, rfl⟩
      · exact ⟨e', c', ⟨a, b, m⟩, e1⟩
      · exact absurd e1 hk
theorem KeysAre.del {D : DataW Unit} {M : Int → Int → Prop} (h : KeysAre D M) {e c : Int} (he : W64 e) (hc : W64 c) : KeysAre (D.del (kG e c)) (struck M e c) := fun kl => by
  by_cases hk : kl = kG e c
  · subst hk
    rw [Maps.has_del_same]
    constructor
    · intro h'; cases h'
    · rintro ⟨e', c', ⟨a, b, m⟩, e1⟩
      obtain ⟨rfl, rfl⟩ := kG_inj he hc a b e1
      exact absurd ⟨rfl, rfl⟩ m.2
  · rw [Maps.has_del_other hk, h]
    constructor
    · rintro ⟨e', c', ⟨a, b, m⟩, e1⟩
      exact ⟨e', c', ⟨a, b, m, fun hh => hk (by rw [e1, hh.1, hh.2])⟩, e1⟩
    · rintro ⟨e', c', ⟨a, b, m⟩, e1⟩; exact ⟨e', c', ⟨a, b, m.1⟩, e1⟩
/-- which grams are still to come -/
def LeftAre (left : Lit → Bool) (L : Int → Int → Prop) : Prop := ∀ kl, left kl = true ↔ ∃ e c, (W64 e ∧ W64 c ∧ L e c) ∧ kl = kG e c
theorem LeftAre.strike {left : Lit → Bool} {L : Int → Int → Prop} (h : LeftAre left L) {e c : Int} (he : W64 e) (hc : W64 c) : LeftAre (fun z => left z && !z.sameKey (kG e c)) (struck L e c) := fun kl => by
  by_cases hk : kl = kG e c
  · subst hk
    show (left (kG e c) && !(kG e c).sameKey (kG e c)) = true ↔ _
    rw [WideAt.sameKey_self (kG_key e c)]
    constructor
    · intro h'; simp at h'
    · rintro ⟨e', c', ⟨a, b, m⟩, e1⟩
      obtain ⟨rfl, rfl⟩ := kG_inj he hc a b e1
      exact absurd ⟨rfl, rfl⟩ m.2
  · simp only [Maps.sameKey_ne hk, Bool.not_false, Bool.and_true]
    rw [h]
    constructor
    · rintro ⟨e', c', ⟨a, b, m⟩, e1⟩
      exact ⟨e', c', ⟨a, b, m, fun hh => hk (by rw [e1, hh.1, hh.2])⟩, e1⟩
    · rintro ⟨e', c', ⟨a, b, m⟩, e1⟩; exact ⟨e', c', ⟨a, b, m.1⟩, e1⟩

/-- block b is a map of at most n grams, just these -/
def GMap (w : World) (b n : Nat) (M : Int → Int → Prop) : Prop := ∃ D : DataW Unit, w.ownsMap Tryd.prog 45 unitElem b n D ∧ KeysAre D M
theorem gmap_made (w : World) : GMap (w.alloc (.map #[] 0)) w.heap.size 0 (fun _ _ => False) := ⟨.map [], World.ownsMap_made _ _ _ _, keysAre_empty⟩
theorem GMap.kept {w w' : World} {b n : Nat} {M : Int → Int → Prop} {row : Option Nat} (h : GMap w b n M) (hg : w.grownBy w' row) (hne : some b ≠ row) : GMap w' b n M := by
  obtain ⟨D, h1, h2⟩ := h
  exact ⟨D, h1.kept hg hne, h2⟩
theorem GMap.lt {w : World} {b n : Nat} {M : Int → Int → Prop} (h : GMap w b n M) : b < w.heap.size := by
  obtain ⟨D, h1, h2⟩ := h
  exact h1.lt
theorem GMap.congr {w : World} {b n : Nat} {M M' : Int → Int → Prop} (h : GMap w b n M) (hM : ∀ e c, M e c ↔ M' e c) : GMap w b n M' := by
  have : M = M' := by funext e c; exact propext (hM e c)
  rw [← this]; exact h
theorem GMap.mono {w : World} {b n n' : Nat} {M : Int → Int → Prop} (h : GMap w b n M) (hn : n ≤ n') : GMap w b n' M := by
  obtain ⟨D, h1, h2⟩ := h
  exact ⟨D, h1.mono hn, h2⟩
/-- a range over it: these are still to come, so many -/
def GRange (w : World) (b r n : Nat) (M L : Int → Int → Prop) (cnt : Nat) : Prop := ∃ (D : DataW Unit) (left : Lit → Bool), w.ranges Tryd.prog 45 unitElem b r n D left cnt ∧ KeysAre D M ∧ LeftAre left L
theorem GRange.map {w : World} {b r n cnt : Nat} {M L : Int → Int → Prop} (h : GRange w b r n M L cnt) : GMap w b n M := by
  obtain ⟨D, left, h1, h2, h3⟩ := h
  exact ⟨D, h1.owns, h2⟩
theorem GRange.left {w : World} {b r n cnt : Nat} {M L : Int → Int → Prop} (h : GRange w b r n M L cnt) : w.rangeLeft b r = cnt := by
  obtain ⟨D, left, h1, h2, h3⟩ := h
  exact h1.left_eq
theorem GRange.kept {w w' : World} {b r n cnt : Nat} {M L : Int → Int → Prop} {row : Option Nat} (h : GRange w b r n M L cnt) (hg : w.grownBy w' row) (hb : some b ≠ row) (hr : some r ≠ row) : GRange w' b r n M L cnt := by
  obtain ⟨D, left, h1, h2, h3⟩ := h
  exact ⟨D, left, h1.kept hg hb hr, h2, h3⟩
theorem GMap.congrW {w : World} {b n : Nat} {M M' : Int → Int → Prop} (h : GMap w b n M) (hM : ∀ e c, W64 e → W64 c → (M e c ↔ M' e c)) : GMap w b n M' := by
  obtain ⟨D, h1, h2⟩ := h
  refine ⟨D, h1, fun kl => ?_⟩
  rw [h2]
  constructor
  · rintro ⟨e, c, ⟨a, b, m⟩, k⟩; exact ⟨e, c, ⟨a, b, (hM e c a b).1 m⟩, k⟩
  · rintro ⟨e, c, ⟨a, b, m⟩, k⟩; exact ⟨e, c, ⟨a, b, (hM e c a b).2 m⟩, k⟩
theorem GRange.congr {w : World} {b r n cnt : Nat} {M M' L L' : Int → Int → Prop} (h : GRange w b r n M L cnt) (hM : ∀ e c, M e c ↔ M' e c) (hL : ∀ e c, L e c ↔ L' e c) : GRange w b r n M' L' cnt := by
  have e1 : M = M' := by funext e c; exact propext (hM e c)
  have e2 : L = L' := by funext e c; exact propext (hL e c)
  rw [← e1, ← e2]; exact h
theorem GRange.lt {w : World} {b r n cnt : Nat} {M L : Int → Int → Prop} (h : GRange w b r n M L cnt) : r < w.heap.size := by
  obtain ⟨D, left, h1, h2, h3⟩ := h
  exact h1.lt

section
variable (w : World) {ops : Array Oper} {rest : List Oper} {o : Oper} {a : Act} {Q : Exit → Act → World → Prop}
theorem wpList_put5 (hg : o.guard = none) (m x v : Operand) (hop : o.op = Op.mapUpdate 58 m x v) (b n : Nat) (M : Int → Int → Prop) (hm : a.eval m = .map (some b)) (hown : GMap w b n M) (hn : n < 1000)
    (e c : Int) (he : W64 e) (hc : W64 c) (hx : a.eval x = gramV e c) (hv : a.eval v = .agg #[])
    (hK : ∀ w', GMap w' b (n + 1) (added M e c) → w.grownBy w' (some b) → wpList Tryd.prog ops Q rest (a.put o.dst undef) w') :
    wpList Tryd.prog ops Q (o :: rest) a w := by
  obtain ⟨D, h1, h2⟩ := hown
  refine wpList_mapUpdate_own w hg m x v _ hop 45 60 keyedG Tryd.underlying58 unitElem b n D hm h1 (by unfold maxLen; omega) (gramV e c) (.agg #[]) (kG e c) hx hv (keyOf_gram he hc) (.agg []) [] unitElem_mk ?_
  intro w' h3 h4
  exact hK w' ⟨_, h3, h2.put h1.isMap he hc _⟩ h4
theorem wpList_look5 (hg : o.guard = none) (m x : Operand) (hop : o.op = Op.lookup 58 m x true) (b n : Nat) (M : Int → Int → Prop) (hm : a.eval m = .map (some b)) (hown : GMap w b n M)
    (e c : Int) (he : W64 e) (hc : W64 c) (hx : a.eval x = gramV e c) (z : Bool) (hz : z = true ↔ M e c)
    (hK : wpList Tryd.prog ops Q rest (a.put o.dst (.tuple #[.agg #[], .bool z])) w) :
    wpList Tryd.prog ops Q (o :: rest) a w := by
  obtain ⟨D, h1, h2⟩ := hown
  refine wpList_lookup_own_unit w hg m x _ hop 45 60 keyedG Tryd.underlying58 (zeroU _) b n D hm h1 (gramV e c) (kG e c) hx (keyOf_gram he hc) ?_
  have : Maps.has D (kG e c) = z := by
    have h := h2.at he hc
    cases z <;> cases hh : Maps.has D (kG e c) <;> simp_all
  rw [this]; exact hK
theorem wpList_range5 (hg : o.guard = none) (m : Operand) (hop : o.op = Op.range 58 m) (b n : Nat) (M : Int → Int → Prop) (hm : a.eval m = .map (some b)) (hown : GMap w b n M)
    (hK : ∀ w' cnt, cnt ≤ n → GRange w' b w.heap.size n M M cnt → w.grownBy w' none → w'.heap.size = w.heap.size + 1 → wpList Tryd.prog ops Q rest (a.put o.dst (.pointer (some ⟨w.heap.size, 0, none⟩))) w') :
    wpList Tryd.prog ops Q (o :: rest) a w := by
  obtain ⟨D, h1, h2⟩ := hown
  refine wpList_range_own w hg m _ hop 45 60 keyedG Tryd.underlying58 unitElem b n D hm h1 ?_
  intro w' h3 h4 h5
  exact hK w' _ h1.size_le ⟨D, Maps.has D, h3, h2, h2⟩ h4 h5
theorem wpList_next5 (hg : o.guard = none) (it : Operand) (hop : o.op = Op.next it false) (b r n : Nat) (M L : Int → Int → Prop) (cnt : Nat)
    (hit : a.eval it = .pointer (some ⟨r, 0, none⟩)) (h : GRange w b r n M L cnt)
    (hDone : (∀ e c, W64 e → W64 c → ¬ L e c) → wpList Tryd.prog ops Q rest (a.put o.dst (.tuple #[.bool false])) w)
    (hMore : ∀ (e c : Int) (w' : World) (cnt' : Nat), W64 e → W64 c → L e c → GRange w' b r n M (struck L e c) cnt' → cnt' < cnt →
      w.grownBy w' (some r) → w'.heap.size = w.heap.size → (Instr.entry (.pointer (some ⟨r, 0, none⟩))).run Tryd.prog w' = .ok (.tuple #[gramV e c, .agg #[]]) w' → wpList Tryd.prog ops Q rest (a.put o.dst (.tuple #[.bool true, gramV e c, .agg #[]])) w') :
    wpList Tryd.prog ops Q (o :: rest) a w := by
  obtain ⟨D, left, h1, h2, h3⟩ := h
  refine wpList_next_ranges w hg it hop 45 keyedG unitElem (fun v : Value => v) (fun v : Value => v) (fun key kl hk => ⟨key, rfl⟩) (fun v y hv => ⟨v, rfl⟩) b r n D left cnt hit h1 ?_ ?_
  · intro _ hl
    refine hDone fun e c he hc hL => ?_
    have := (h3 (kG e c)).2 ⟨e, c, ⟨he, hc, hL⟩, rfl⟩
    rw [hl] at this; cases this
  · intro x v kl y w' cnt' hkey hlk hv hat hrg hlt hgr hsz hen
    obtain ⟨e, c, ⟨he, hc, hL⟩, rfl⟩ := (h3 kl).1 hlk
    obtain rfl := keyedG.inj hkey (keyOf_gram he hc)
    obtain ⟨rfl, _⟩ := unitElem_inv hv
    exact hMore e c w' cnt' he hc hL ⟨D, _, hrg, h2, h3.strike he hc⟩ hlt hgr hsz hen
theorem wpList_delete5 (hg : o.guard = none) (m x : Operand) (hop : o.op = Op.call { callee := Callee.builtin Builtin.delete, args := #[m, x], argTypes := #[58, 45] })
    (b r n : Nat) (M L : Int → Int → Prop) (cnt : Nat) (hm : a.eval m = .map (some b)) (h : GRange w b r n M L cnt) (e c : Int) (he : W64 e) (hc : W64 c) (hx : a.eval x = gramV e c)
    (hK : ∀ w' cnt', GRange w' b r n (struck M e c) (struck L e c) cnt' → cnt' ≤ cnt → w.grownBy w' (some b) → w'.heap.size = w.heap.size → wpList Tryd.prog ops Q rest (a.put o.dst (.tuple #[])) w') :
    wpList Tryd.prog ops Q (o :: rest) a w := by
  obtain ⟨D, left, h1, h2, h3⟩ := h
  refine wpList_delete_ranges w hg m x _ _ hop 60 keyedG Tryd.underlying58 unitElem b r n D left cnt hm h1 (gramV e c) (kG e c) hx (keyOf_gram he hc) ?_
  intro w' cnt' h4 h5 h6
  have hsz : w'.heap.size = w.heap.size := by
    obtain ⟨es, cl, es', cl', _, rfl⟩ := h6
    simp [Go.ChangeMaps.setBlock]
  exact hK w' cnt' ⟨_, _, h4, h2.del he hc, h3.strike he hc⟩ h5 h6.grown hsz
end
end Go.Proofs.YtodcjhckkbmikaaDoor.wi
