/-
  The program's PolicyRead. No condition.
-/
import Derived.Test.YtndjjhcdnlkekaaDoorCu7
import Derived.Test.YtndjjhcdnlkekaaDoorCu5
import Derived.Test.YtndjjhcdnlkekaaDoorRuT
namespace Go.Proofs.YtndjjhcdnlkekaaDoor.cu
open Go.ChangeShapes Go.WideShapes Go.ChangeAt Go.RowKit
open Go.Proofs.YtndjjhcdnlkekaaDoor.gb (bat bat_eq GlobR)
open Go.Proofs.YtndjjhcdnlkekaaDoor.rl
open Go.Proofs.YtndjjhcdnlkekaaDoor.ot (below_own)
open Go.Proofs.YtndjjhcdnlkekaaDoor.wi (heap_lt calls_w wp_w)
open Classical
set_option linter.unusedVariables false

theorem four_new (w : World) (a b c d : Value) (t : TypeId) : ∀ j u, [a, b, c, d][j]? = some u → (w.alloc (.cells #[a, b, c, d] t)).cell? ((⟨w.heap.size, 0, none⟩ : Addr).add j) = some u := by
  intro j u hj
  match j, hj with
  | 0, hj => simp at hj; subst hj; simp [Addr.add]
  | 1, hj => simp at hj; subst hj; simp [Addr.add]
  | 2, hj => simp at hj; subst hj; simp [Addr.add]
  | 3, hj => simp at hj; subst hj; simp [Addr.add]
  | j + 4, hj => simp at hj
theorem OwR.set {base : Nat} {v : Value} {l : List Ln} {u : World} (h : OwR base v l u) {q : Nat} (hq : q < base) (k : Nat) (x : Value) : OwR base v l (u.setCell ⟨q, k, none⟩ x) :=
  World.ownsRow.kept h (row := some q) ⟨rfl, rfl, rfl, by simp [World.setCell], fun j hj hne => heap_setCell_other _ _ _ _ (fun hh => hne (by rw [hh]))⟩ (.inr fun e => by obtain ⟨h1, _⟩ := h.block q e; omega)
theorem drop_cons {P R : List ByteArray} {n : Nat} {a : ByteArray} (h : P.drop n = a :: R) : P.getD n nob = a ∧ P.drop (n + 1) = R ∧ P.length = n + 1 + R.length := by
  have hl : n < P.length := by
    rcases Nat.lt_or_ge n P.length with h' | h'
    · exact h'
    · rw [List.drop_eq_nil_of_le h'] at h; cases h
  rw [List.drop_eq_getElem_cons hl] at h
  simp only [List.cons.injEq] at h
  refine ⟨?_, h.2, ?_⟩
  · rw [List.getD_eq_getElem?_getD, List.getElem?_eq_getElem hl]; exact h.1
  · rw [← h.2, List.length_drop]; omega
/-- reading, the text s left -/
def InR2 (w : World) (t s : ByteArray) (l : List Ln) (v : Value) (u : World) : Prop := (Below w.heap.size w u ∧ rw.At u w.heap.size #[.slice none 0 0, .int .i64 0, .int .i64 0] 38) ∧ OwR (w.heap.size + 1) v l u ∧ GoodTo (Pcs t 0 0) l ∧ (Pcs t 0 0).drop l.length = Pcs s 0 0 ∧ s.size ≤ t.size
theorem InR2.up {w u u' : World} {t s : ByteArray} {l : List Ln} {v : Value} (h : InR2 w t s l v u) (hb : Below u.heap.size u u') : InR2 w t s l v u' := ⟨⟨h.1.1.trans (hb.mono h.1.1.size), h.1.2.up hb⟩, h.2.1.up hb, h.2.2⟩
theorem InR2.new (w : World) (t : ByteArray) : InR2 w t t [] (.slice none 0 0) (w.alloc (.cells #[.slice none 0 0, .int .i64 0, .int .i64 0] 38)) :=
  ⟨⟨(Below.refl _ _).alloc (Nat.le_refl _) _, rw.At.new w _ _⟩, OwR.nil _ _, good_zero t, rfl, Nat.le_refl _⟩
theorem InR2.rest {w u : World} {t s : ByteArray} {l : List Ln} {v : Value} (h : InR2 w t s l v u) {i : Nat} (hi : FirstAt s 10 i) : (Pcs t 0 0).getD l.length nob = s.extract 0 i ∧ (Pcs t 0 0).drop (l.length + 1) = Pcs (s.extract (i + 1) s.size) 0 0 ∧ l.length + 1 < (Pcs t 0 0).length := by
  have e := h.2.2.2.1
  rw [pcs_first hi] at e
  obtain ⟨e1, e2, e3⟩ := drop_cons e
  have := pcs_pos (s.extract (i + 1) s.size)
  exact ⟨e1, e2, by omega⟩
theorem InR2.last {w u : World} {t s : ByteArray} {l : List Ln} {v : Value} (h : InR2 w t s l v u) (hs : NoneOf s 10) : (Pcs t 0 0).getD l.length nob = s ∧ l.length + 1 = (Pcs t 0 0).length := by
  have e := h.2.2.2.1
  rw [pcs_none hs] at e
  obtain ⟨e1, e2, e3⟩ := drop_cons e
  exact ⟨e1, by simp at e3; omega⟩
theorem InR2.done {w u : World} {t s : ByteArray} {l : List Ln} {v : Value} (h : InR2 w t s l v u) (ht : t.size ≤ 8000) (hs : s = nob) : OutIs t l 0 0 := by
  subst hs
  obtain ⟨e1, e2⟩ := h.last (fun j hj => absurd hj (Nat.not_lt_zero j))
  exact .inr ⟨ht, l, h.2.2.1, .inr ⟨e2, e1, rfl, rfl, rfl⟩⟩
theorem InR2.open {w u : World} {t s : ByteArray} {l : List Ln} {v : Value} (h : InR2 w t s l v u) (ht : t.size ≤ 8000) (hs : NoneOf s 10) (hn : s ≠ nob) : OutIs t [] l.length 3 := by
  obtain ⟨e1, e2⟩ := h.last hs
  exact .inr ⟨ht, l, h.2.2.1, .inl ⟨.inr ⟨e2, by rw [e1]; exact hn⟩, rfl, rfl, rfl⟩⟩
theorem InR2.wrong {w u : World} {t s : ByteArray} {l : List Ln} {v : Value} (h : InR2 w t s l v u) (ht : t.size ≤ 8000) {i : Nat} (hi : FirstAt s 10 i) (hn : 12 ≤ l.length ∨ ∀ y, LnR y → bare y ≠ s.extract 0 i) : OutIs t [] l.length 3 := by
  obtain ⟨e1, e2, e3⟩ := h.rest hi
  exact .inr ⟨ht, l, h.2.2.1, .inl ⟨.inl ⟨e3, by rw [e1]; exact hn⟩, rfl, rfl, rfl⟩⟩
theorem InR2.next {w u u' : World} {t s : ByteArray} {l : List Ln} {v v' : Value} (h : InR2 w t s l v u) {i : Nat} (hi : FirstAt s 10 i) {x : Ln} (hx : LnR x) (hb : bare x = s.extract 0 i) (hl : l.length < 12) (o : Obj)
    (hg : (u.alloc o).grownBy u' v.ownBlock) (ho : u'.ownsRow (w.heap.size + 1) 26 4 v' (l.length + 1) (l.flatMap flat1 ++ [.int .i64 x.1, .int .i64 x.2.1, .string x.2.2.1, .string x.2.2.2])) : InR2 w t (s.extract (i + 1) s.size) (l ++ [x]) v' u' := by
  obtain ⟨e1, e2, e3⟩ := h.rest hi
  have hsz := h.1.1.size
  have hlt : w.heap.size < (u.alloc o).heap.size := by rw [World.size_alloc]; omega
  refine ⟨⟨below_own (h.1.1.alloc hsz o) hg (h.2.1.up (rw.up_alloc _ _)) (Nat.le_succ _) (Nat.le_of_lt hlt), ?_⟩, OwR.of ho, h.2.2.1.add e3 hl hx (hb.trans e1.symm), by rw [List.length_append]; exact e2, by have := h.2.2.2.2; simp; omega⟩
  exact (hg.block _ hlt (fun e => by obtain ⟨h1, _⟩ := h.2.1.block _ e.symm; omega)).trans (h.1.2.up (rw.up_alloc _ _))
/-- told -/
def outW (u : World) (q : Nat) (v : Value) (a b : Int) : World := ((u.setCell ⟨q, 0, none⟩ v).setCell ⟨q, 1, none⟩ (.int .i64 a)).setCell ⟨q, 2, none⟩ (.int .i64 b)
def InO2 (w : World) (l : List Ln) (v : Value) (a b : Int) (u : World) : Prop := Below w.heap.size w u ∧ rw.At u w.heap.size #[v, .int .i64 a, .int .i64 b] 38 ∧ OwR (w.heap.size + 1) v l u
theorem InR2.tell {w u : World} {t s : ByteArray} {l : List Ln} {v : Value} (h : InR2 w t s l v u) : InO2 w l v 0 0 (outW u w.heap.size v 0 0) :=
  ⟨((h.1.1.setCell (Nat.le_refl _) _).setCell (Nat.le_refl _) _).setCell (Nat.le_refl _) _, ((h.1.2.set 0 _).set 1 _).set 2 _, ((h.2.1.set (Nat.lt_succ_self _) _ _).set (Nat.lt_succ_self _) _ _).set (Nat.lt_succ_self _) _ _⟩
theorem InR2.err {w u : World} {t s : ByteArray} {l : List Ln} {v : Value} (h : InR2 w t s l v u) (a b : Int) : InO2 w [] (.slice none 0 0) a b (outW u w.heap.size (.slice none 0 0) a b) :=
  ⟨((h.1.1.setCell (Nat.le_refl _) _).setCell (Nat.le_refl _) _).setCell (Nat.le_refl _) _, ((h.1.2.set 0 _).set 1 _).set 2 _, OwR.nil _ _⟩
theorem InR2.cells {w u : World} {t s : ByteArray} {l : List Ln} {v : Value} (h : InR2 w t s l v u) : (u.cell? ⟨w.heap.size, 0, none⟩ = some (.slice none 0 0) ∧ u.cell? ⟨w.heap.size, 1, none⟩ = some (.int .i64 0) ∧ u.cell? ⟨w.heap.size, 2, none⟩ = some (.int .i64 0)) ∧ ∀ k, u.frozen? ⟨w.heap.size, k, none⟩ = false := ⟨⟨h.1.2.cell 0, h.1.2.cell 1, h.1.2.cell 2⟩, fun k => h.1.2.frozen k⟩
theorem infoPO : (Tryd.prog.info? 38).map (·.size) = some 3 := by kernel_rfl
def szS : Value → Nat
  | .string s => s.size
  | _ => 0
theorem ne_nob {s : ByteArray} (h : s ≠ nob) : (s.toList == []) = false := beq_eq_false_iff_ne.2 fun e => h (ext_of (by rw [ByteArray.toList_eq] at e; rw [e]; rfl))
def OutPost (t : ByteArray) (w : World) (e : Ending) (w' : World) : Prop := ∃ l v ln cd, e = .returned (.agg #[v, .int .i64 ln, .int .i64 cd]) ∧ OutIs t l ln cd ∧ Below w.heap.size w w' ∧ OwR (w.heap.size + 1) v l w'
set_option maxRecDepth 20000 in
set_option maxHeartbeats 4000000 in
theorem readI_any (t : ByteArray) (w : World) (ht : t.size ≤ 1048576) :
    Calls Tryd.prog 21 #[.string t] w (OutPost t w) := by
  by_cases hsz : 8000 < t.size
  · have h1 : (8000 : Int) < t.size := by omega
    have HO : Hid (OutIs t [] 0 2) := .inl ⟨hsz, rfl, rfl, rfl⟩
    have HB : Hid (∀ o, Below w.heap.size w (w.alloc o)) := fun o => (Below.refl _ _).alloc (Nat.le_refl _) o
    go_enter Tryd.func21, Tryd.ntmps21
    go_wp2
    exact bodyPost_ret (results_cell_row Tryd.results21 _ _ w.heap.size _ #[.slice none 0 0, .int .i64 0, .int .i64 2] _ _ rfl (rw.At.new w _ _) Tryd.underlying38 rfl infoPO) rfl ⟨[], _, _, _, rfl, HO.out, HB.out _, OwR.nil _ _⟩
  · have h1 : ¬ (8000 : Int) < t.size := by omega
    have ht8 : t.size ≤ 8000 := by omega
    obtain ⟨i0, hi, hz0, hz1, hz2⟩ := info_parts infoILz
    have HI : Hid (_ ∧ _ ∧ _ ∧ _) := ⟨hi, hz0, hz1, hz2⟩
    clear hi hz0 hz1 hz2 hsz
    have HS0 : Hid (InR2 w t t [] (.slice none 0 0) _) := InR2.new w t
    go_enter Tryd.func21, Tryd.ntmps21
    go_wp2
    go_loopw [0, 3] (fun x v u => ∃ (s : ByteArray) (l : List Ln), x = .string s ∧ Hid (InR2 w t s l v u)) (fun x _ _ => szS x)
    case atStart => exact ⟨t, [], rfl, HS0⟩
    case round =>
      clear HS0 h1
      obtain ⟨s, l, rfl, HS⟩ := hrel
      have i := HS.out
      have hl12 : l.length ≤ 12 := i.2.2.1.2.1
      have hss : s.size ≤ t.size := i.2.2.2.2
      obtain ⟨p, c, hv⟩ := i.2.1.shape
      subst hv
      clear HS
      by_cases hs : s = nob
      · have HO : Hid (OutIs t l 0 0) := i.done ht8 hs
        obtain ⟨⟨c0, c1, c2⟩, f0⟩ := i.cells
        have HF : Hid _ := i.tell
        clear i
        subst hs
        have hsl : (nob.toList == []) = true := by rw [ByteArray.toList_eq]; rfl
        unfold nob at *
        go_wp2
        obtain ⟨d1, d2, d3⟩ := HF.out
        exact bodyPost_ret (results_cell_row Tryd.results21 _ _ w.heap.size _ #[.slice p l.length c, .int .i64 0, .int .i64 0] _ _ rfl d2 Tryd.underlying38 rfl infoPO) rfl ⟨l, _, _, _, rfl, HO.out, d1, d3⟩
      · have hsl := ne_nob hs
        go_wp2_with (go_at_call 42; fail)
        refine (cut_any s 10 _ (by unfold maxLen; omega)).mono ?_
        rintro r7 u2 ⟨hcu, hb⟩
        replace i := i.up hb
        clear hb
        rcases hcu with ⟨n, hn, rfl⟩ | ⟨hn, rfl⟩
        · have HN : Hid (FirstAt s 10 n) := hn
          have hz : (s.extract (n + 1) s.size).size < s.size := by have := hn.1; simp; omega
          have ha : (s.extract 0 n).size ≤ 8000 := by simp; omega
          clear hn
          obtain ⟨a, hae⟩ : ∃ a, a = s.extract 0 n := ⟨_, rfl⟩
          obtain ⟨b, hbe⟩ : ∃ b, b = s.extract (n + 1) s.size := ⟨_, rfl⟩
          rw [← hae] at ha ⊢
          rw [← hbe] at hz ⊢
          have HA : Hid (a = s.extract 0 n ∧ b = s.extract (n + 1) s.size) := ⟨hae, hbe⟩
          clear hae hbe hsl hs
          go_wp2_with (go_at_call 43; fail)
          refine (ruleIn_any a _ ha).mono ?_
          rintro r7 u3 ⟨⟨x, bb, rfl, hx⟩, hb⟩
          have HX : Hid (LineIs a x bb) := hx
          replace i := i.up hb
          clear hb hx
          have iu := i.up (rw.up_alloc u3 (.cells #[.int .i64 x.1, .int .i64 x.2.1, .string x.2.2.1, .string x.2.2.2] 26))
          have g0 := rw.At.new u3 #[.int .i64 x.1, .int .i64 x.2.1, .string x.2.2.1, .string x.2.2.2] 26
          by_cases hgo : bb = true ∧ l.length < 12
          · obtain ⟨rfl, hl⟩ := hgo
            have dl : ((l.length : Int) == 12) = false := beq_eq_false_iff_ne.2 (by omega)
            have HO : Hid (∀ o, World.ownsRow ((u3.alloc (.cells #[.int .i64 x.1, .int .i64 x.2.1, .string x.2.2.1, .string x.2.2.2] 26)).alloc o) (w.heap.size + 1) 26 4 (.slice p l.length c) l.length (l.flatMap flat1)) := fun o => (iu.up (rw.up_alloc _ o)).2.1
            have HZ : Hid (∀ o, w.heap.size + 1 ≤ ((u3.alloc (.cells #[.int .i64 x.1, .int .i64 x.2.1, .string x.2.2.1, .string x.2.2.2] 26)).alloc o).heap.size) := fun o => by have := iu.1.1.size; rw [World.size_alloc]; omega
            have HIU : Hid (InR2 w t s l (.slice p l.length c) _) := iu
            have a0 := g0.cell 0
            have a1 := g0.cell 1
            have a2 := g0.cell 2
            have a3 := g0.cell 3
            clear i iu g0
            obtain ⟨x1, x2, x3, x4⟩ := x
            dsimp only at *
            go_wp2_with (at_builtin; refine wpList_append_own _ rfl _ _ 32 rfl (w.heap.size + 1) 26 i0 (.agg #[.int .i64 0, .int .i64 0, .string ⟨#[]⟩, .string ⟨#[]⟩]) 4 48 Tryd.underlying32 HI.out.1 HI.out.2.1 HI.out.2.2.1 HI.out.2.2.2 rfl (by decide) (.slice p l.length c) l.length (l.flatMap flat1) rfl (HO.out _) ⟨u3.heap.size + 1, 0, none⟩ 1 1 [.int .i64 x1, .int .i64 x2, .string x3, .string x4] rfl rfl (fun j y hj => by have := four_new (u3.alloc (.cells #[.int .i64 x1, .int .i64 x2, .string x3, .string x4] 26)) (.int .i64 x1) (.int .i64 x2) (.string x3) (.string x4) 26 j y hj; rwa [World.size_alloc] at this) (by simp [Value.oneCell']) (by unfold maxLen; omega) (by omega) (HZ.out _) ?_; intro v4 w4 hown hgr hnil; clear hnil; have HXX : Hid (InR2 w t b (l ++ [(x1, x2, x3, x4)]) v4 w4) := (by rw [HA.out.2]; exact HIU.out.next HN.out (HX.out.1 rfl).1 (by rw [← HA.out.1]; exact (HX.out.1 rfl).2) hl _ hgr hown); clear hown hgr HO HZ HIU a0 a1 a2 a3)
            go_round
            case rel => exact ⟨b, _, rfl, HXX⟩
            case measure => simp [szS]; omega
          · have HE : Hid (OutIs t [] l.length 3) := i.wrong ht8 HN.out (by
              by_cases h : bb = true
              · exact .inl (by have : ¬ l.length < 12 := fun h' => hgo ⟨h, h'⟩; omega)
              · exact .inr (by rw [← HA.out.1]; exact HX.out.2 (by simpa using h)))
            have hcase : bb = false ∨ bb = true ∧ ((l.length : Int) == 12) = true := by
              by_cases h : bb = true
              · exact .inr ⟨h, beq_iff_eq.2 (by have : ¬ l.length < 12 := fun h' => hgo ⟨h, h'⟩; omega)⟩
              · exact .inl (by simpa using h)
            clear hgo HX HN HA
            rcases hcase with rfl | ⟨rfl, dl⟩
            · obtain ⟨⟨c0, c1, c2⟩, f0⟩ := iu.cells
              have HF : Hid _ := iu.err l.length 3
              clear i iu g0
              obtain ⟨x1, x2, x3, x4⟩ := x
              dsimp only at *
              go_wp2
              obtain ⟨d1, d2, d3⟩ := HF.out
              exact bodyPost_ret (results_cell_row Tryd.results21 _ _ w.heap.size _ #[.slice none 0 0, .int .i64 l.length, .int .i64 3] _ _ rfl d2 Tryd.underlying38 rfl infoPO) rfl ⟨[], _, _, _, rfl, HE.out, d1, d3⟩
            · obtain ⟨⟨c0, c1, c2⟩, f0⟩ := iu.cells
              have HF : Hid _ := iu.err l.length 3
              clear i iu g0
              obtain ⟨x1, x2, x3, x4⟩ := x
              dsimp only at *
              go_wp2
              obtain ⟨d1, d2, d3⟩ := HF.out
              exact bodyPost_ret (results_cell_row Tryd.results21 _ _ w.heap.size _ #[.slice none 0 0, .int .i64 l.length, .int .i64 3] _ _ rfl d2 Tryd.underlying38 rfl infoPO) rfl ⟨[], _, _, _, rfl, HE.out, d1, d3⟩
        · have HE : Hid (OutIs t [] l.length 3) := i.open ht8 hn hs
          clear hn hs
          go_wp2_with (go_at_call 43; fail)
          refine (ruleIn_any s _ (by omega)).mono ?_
          rintro r7 u3 ⟨⟨x, bb, rfl, hx⟩, hb⟩
          replace i := i.up hb
          clear hb hx
          have iu := i.up (rw.up_alloc u3 (.cells #[.int .i64 x.1, .int .i64 x.2.1, .string x.2.2.1, .string x.2.2.2] 26))
          have g0 := rw.At.new u3 #[.int .i64 x.1, .int .i64 x.2.1, .string x.2.2.1, .string x.2.2.2] 26
          obtain ⟨⟨c0, c1, c2⟩, f0⟩ := iu.cells
          have HF : Hid _ := iu.err l.length 3
          clear i iu g0
          obtain ⟨x1, x2, x3, x4⟩ := x
          dsimp only at *
          go_wp2
          obtain ⟨d1, d2, d3⟩ := HF.out
          exact bodyPost_ret (results_cell_row Tryd.results21 _ _ w.heap.size _ #[.slice none 0 0, .int .i64 l.length, .int .i64 3] _ _ rfl d2 Tryd.underlying38 rfl infoPO) rfl ⟨[], _, _, _, rfl, HE.out, d1, d3⟩
end Go.Proofs.YtndjjhcdnlkekaaDoor.cu
