/-
  A row that grows in a loop over an iterator: what lies in its variable, and what an append leaves. No condition.
-/
import Derived.Test.YtcfekhahibklfaaDoorMg15
import Derived.Test.YtcfekhahibklfaaDoorLgAp
import Derived.Test.YtcfekhahibklfaaDoorLgRd
namespace Go.Proofs.YtcfekhahibklfaaDoor.li
open Go.ChangeShapes Go.WideShapes Go.ChangeAt Go.RowKit Go.Shelf
open Go.Proofs.YtcfekhahibklfaaDoor.wi (heap_lt)
open Go.Proofs.YtcfekhahibklfaaDoor.la
set_option linter.unusedVariables false

/-- a variable with a row of its own, and what lies in the row -/
structure Grw (n₀ n₁ : Nat) (w : World) (P : Nat) (cs : Array Value) (tS e : TypeId) (size n : Nat) (xs : List Value) (v : Value) (W : World) : Prop where
  box : W.heap[P]? = some (.cells cs tS (0, 0))
  row : W.ownsRow n₁ e size v n xs
  nil : n = 0 → v = .slice none 0 0
  below : Below n₀ w W
theorem own_block {u : World} {base size : Nat} {e : TypeId} {v : Value} {n : Nat} {xs : List Value} (h : u.ownsRow base e size v n xs) : ∀ k, v.ownBlock = some k → base ≤ k ∧ ∃ cur, u.heap[k]? = some (.cells cur e (0, 0)) := by
  intro k hk
  rcases h.2 with ⟨rfl, _⟩ | ⟨g, cap, cur, rfl, hb, hg, _⟩
  · simp [Value.ownBlock] at hk
  · simp [Value.ownBlock] at hk
    subst hk
    exact ⟨hb, cur, hg⟩
theorem own_shape {u : World} {base size : Nat} {e : TypeId} {v : Value} {n : Nat} {xs : List Value} (h : u.ownsRow base e size v n xs) : ∃ p cap, v = .slice p n cap := by
  rcases h.2 with ⟨rfl, rfl⟩ | ⟨g, cap, cur, rfl, _⟩
  · exact ⟨_, _, rfl⟩
  · exact ⟨_, _, rfl⟩
theorem own_kept {u u' : World} {base size : Nat} {e : TypeId} {v : Value} {n : Nat} {xs : List Value} {row : Option Nat} (h : u.ownsRow base e size v n xs) (hg : u.grownBy u' row) (hr : ∀ r, row = some r → ∃ o : Obj, u.heap[r]? = some o ∧ o.isCells = false) : u'.ownsRow base e size v n xs := by
  refine h.kept hg ?_
  cases hv : v.ownBlock with
  | none => exact .inl rfl
  | some k =>
    right
    intro e2
    obtain ⟨o, ho, hc⟩ := hr k e2.symm
    obtain ⟨_, cur, hcur⟩ := own_block h k hv
    rw [hcur] at ho; cases ho; cases hc
theorem Grw.own {n₀ n₁ P B : Nat} {w : World} {tS e : TypeId} {size : Nat} {β : Type} (h0 : n₀ ≤ w.heap.size) (h1 : n₀ ≤ B) (n : β → Nat) (xs : β → List Value) (cs : β → Value → Array Value) : OwnFrom B (fun (x : β) W => ∃ v, Grw n₀ n₁ w P (cs x v) tS e size (n x) (xs x) v W) := by
  intro x X Y row hs hg hr
  obtain ⟨v, h⟩ := hs
  refine ⟨v, ?_, own_kept h.row hg (fun r e => (hr r e).2), h.nil, ownFrom_below (β := Unit) h0 h1 () X Y row h.below hg hr⟩
  refine (hg.block P (heap_lt h.box) (fun e' => ?_)).trans h.box
  obtain ⟨_, o, ho, hc⟩ := hr P e'.symm
  rw [h.box] at ho; cases ho; cases hc
theorem Grw.up {n₀ n₁ : Nat} {w : World} {P : Nat} {cs : Array Value} {tS e : TypeId} {size n : Nat} {xs : List Value} {v : Value} {W U : World} (h : Grw n₀ n₁ w P cs tS e size n xs v W) (h0 : n₀ ≤ W.heap.size) (hb : Below W.heap.size W U) : Grw n₀ n₁ w P cs tS e size n xs v U :=
  ⟨(hb.block P (heap_lt h.box)).trans h.box, own_kept h.row (grown_up hb) (fun r e => by cases e), h.nil, h.below.trans (hb.mono h0)⟩
theorem Grw.app {n₀ n₁ : Nat} {w : World} {P : Nat} {cs : Array Value} {tS e : TypeId} {size n m : Nat} {xs ys : List Value} {v v' : Value} {U W : World} (h : Grw n₀ n₁ w P cs tS e size n xs v U) (h0 : n₀ ≤ n₁) (h2 : n₀ ≤ U.heap.size) (hP : P < n₁) (hm : 0 < m)
    (hA : After U n₁ e size v (n + m) ys v' W) : Grw n₀ n₁ w P cs tS e size (n + m) ys v' W := by
  refine ⟨(hA.grown.block P (heap_lt h.box) (fun e2 => ?_)).trans h.box, hA.own, fun e2 => by omega, h.below.grown hA.grown (Nat.le_trans h2 (Nat.le_refl _)) (fun k e2 => Nat.le_trans h0 (own_block h.row k e2).1)⟩
  have := (own_block h.row P e2.symm).1
  omega
theorem Grw.set {n₀ n₁ : Nat} {w : World} {P : Nat} {cs : Array Value} {tS e : TypeId} {size n : Nat} {xs : List Value} {v : Value} {W : World} (h : Grw n₀ n₁ w P cs tS e size n xs v W) (h0 : n₀ ≤ P) (hP : P < n₁) (k : Nat) (z : Value) : Grw n₀ n₁ w P (cs.setIfInBounds k z) tS e size n xs v (W.setCell ⟨P, k, none⟩ z) := by
  refine ⟨heap_setCell_same _ _ _ _ _ _ h.box, ?_, h.nil, h.below.setCell (p := ⟨P, k, none⟩) h0 z⟩
  refine h.row.kept (row := some P) (⟨rfl, rfl, rfl, by simp [World.setCell], fun j hj hne => heap_setCell_other _ _ _ _ (fun hh => hne (by rw [hh]))⟩) ?_
  cases hv : v.ownBlock with
  | none => exact .inl rfl
  | some g => exact .inr (by intro e2; have := (own_block h.row g hv).1; injection e2; omega)
theorem After.kc {n₀ B n₁ : Nat} {e : TypeId} {size n m : Nat} {xs ys : List Value} {v v' : Value} {U W : World} (hr : U.ownsRow n₁ e size v n xs) (he : e ≠ 5) (h0 : n₀ ≤ n₁) (h2 : n₀ ≤ U.heap.size) (hA : After U n₁ e size v m ys v' W) : Kc n₀ B U W := by
  refine ⟨(Below.refl n₀ U).grown hA.grown h2 (fun k e2 => Nat.le_trans h0 (own_block hr k e2).1), fun k x _ hx => hA.first k x hx, fun k c m2 _ hk => ?_⟩
  refine (hA.grown.block k (heap_lt hk) (fun e2 => ?_)).trans hk
  obtain ⟨_, cur, hc⟩ := own_block hr k e2.symm
  rw [hc] at hk
  cases hk
  exact he rfl
theorem After.others {n₁ : Nat} {e : TypeId} {size n m : Nat} {xs ys : List Value} {v v' : Value} {U W : World} (hr : U.ownsRow n₁ e size v n xs) (hA : After U n₁ e size v m ys v' W) : KeepsOthers U W :=
  KeepsOthers.of_grownBy hA.grown (fun j o hj ho => by
    obtain ⟨_, cur, hc⟩ := own_block hr j hj
    rw [hc] at ho; cases ho; rfl)
theorem others_up {W U : World} (hb : Below W.heap.size W U) : KeepsOthers W U := KeepsOthers.of_grownBy (grown_up hb) (fun j o hj ho => by cases hj)
theorem After.cell {n₁ : Nat} {e : TypeId} {size n m : Nat} {xs ys : List Value} {v v' : Value} {U W : World} (hr : U.ownsRow n₁ e size v n xs) (hA : After U n₁ e size v m ys v' W) {k : Nat} {cs : Array Value} {t : TypeId} (ht : t ≠ e) (hk : U.heap[k]? = some (.cells cs t (0, 0))) : W.heap[k]? = some (.cells cs t (0, 0)) := by
  refine (hA.grown.block k (heap_lt hk) (fun e2 => ?_)).trans hk
  obtain ⟨_, cur, hc⟩ := own_block hr k e2.symm
  rw [hc] at hk
  cases hk
  exact (ht rfl).elim
theorem two_new (u : World) (x y : Value) (t : TypeId) : ∀ (j : Nat) (z : Value), [x, y][j]? = some z → (u.alloc (.cells #[x, y] t)).cell? ((⟨u.heap.size, 0, none⟩ : Addr).add j) = some z := by
  intro j z hj
  match j, hj with
  | 0, hj => simp at hj; subst hj; rw [Addr.add_lit]; simp
  | 1, hj => simp at hj; subst hj; rw [Addr.add_lit]; simp
  | (j + 2), hj => simp at hj
theorem onlyN_up {o : Option Tmp} {v : Value} {Q : Exit → Act → World → Prop} : ∀ c (a : Act) w, OnlyN Q (.panic c) (a.put o v) w → OnlyN Q (.panic c) a w := fun c a w h => by cases h.1
end Go.Proofs.YtcfekhahibklfaaDoor.li
