/-
  The text of a policy: the program's PolicyText. No condition.
-/
import Derived.Test.YtndjjhcdnlkekaaDoorPt0
import Derived.Test.YtndjjhcdnlkekaaDoorPo0
namespace Go.Proofs.YtndjjhcdnlkekaaDoor.rl
open Go.ChangeShapes Go.WideShapes Go.ChangeAt Go.RowKit
open Go.Proofs.YtndjjhcdnlkekaaDoor.sc (ret_b)
open Go.Proofs.YtndjjhcdnlkekaaDoor.wi (heap_lt calls_w wp_w)
open Go.Proofs.YtndjjhcdnlkekaaDoor.jo (joined_any joinB total joined2 bytesOf_length)
open Classical
set_option linter.unusedVariables false

theorem joinB_size (ss : List ByteArray) : (joinB ss).size = total ss := by
  show (⟨(jo.bytesOf ss).toArray⟩ : ByteArray).size = _
  rw [← bytesOf_length]; rfl
theorem wordB_size {k n : Int} : (wordB k n).size ≤ 6 := by
  unfold wordB
  split
  · decide
  · split
    · unfold holdB; rw [ByteArray.size_append, decB_size]; exact Nat.le_refl 6
    · decide
theorem lineB_size (k n : Int) (u g : ByteArray) (hu : u.size ≤ 20) (hg : g.size ≤ 30) : (lineB k n u g).size ≤ 60 := by
  unfold lineB
  rw [joinB_size]
  simp only [total, List.map_cons, List.map_nil, List.sum_cons, List.sum_nil]
  have e1 : (⟨#[32]⟩ : ByteArray).size = 1 := rfl
  have e2 : (⟨#[10]⟩ : ByteArray).size = 1 := rfl
  have := @wordB_size k n
  omega
def lineL (x : Ln) : ByteArray := lineB x.1 x.2.1 x.2.2.1 x.2.2.2
/-- the text of the first k -/
def ptext (l : List Ln) : Nat → ByteArray
  | 0 => ⟨#[]⟩
  | k + 1 => ptext l k ++ lineL (l.getD k ln0)
theorem name_short {u : ByteArray} (h : nm.nameB u = true) : u.size ≤ 20 := by
  by_cases h1 : 20 < u.size
  · rw [nm.nameB_long u h1] at h; cases h
  · omega
theorem LnR.sizes {x : Ln} (h : LnR x) : x.2.2.1.size ≤ 20 ∧ x.2.2.2.size ≤ 30 := by
  refine ⟨?_, h.2.2.1.2⟩
  rcases h.2.1 with h | h
  · rw [h]; decide
  · exact name_short h
theorem ptext_size {l : List Ln} (h : ∀ j, j < l.length → LnR (l.getD j ln0)) : ∀ k, k ≤ l.length → (ptext l k).size ≤ 60 * k
  | 0, _ => Nat.le_refl _
  | k + 1, hk => by
    have h1 := ptext_size h k (by omega)
    have h2 := (h k (by omega)).sizes
    have h3 := lineB_size (l.getD k ln0).1 (l.getD k ln0).2.1 _ _ h2.1 h2.2
    show (ptext l k ++ lineL (l.getD k ln0)).size ≤ _
    rw [ByteArray.size_append]
    show _ + (lineB _ _ _ _).size ≤ _
    omega
/-- what PolicyText tells -/
def TextIs (l : List Ln) (t : ByteArray) : Prop := (PolR l → t = ptext l l.length) ∧ (¬ PolR l → t = ⟨#[]⟩)
theorem TextIs.uniq {l : List Ln} {a b : ByteArray} (h : TextIs l a) (h' : TextIs l b) : a = b := by
  by_cases hp : PolR l
  · exact (h.1 hp).trans (h'.1 hp).symm
  · exact (h.2 hp).trans (h'.2 hp).symm
set_option maxHeartbeats 8000000 in
theorem ptI_any (v : Value) (l : List Ln) (w : World) (hl : l.length ≤ maxLen) (hz : ∀ r ∈ l, r.2.2.1.size ≤ maxLen ∧ r.2.2.2.size ≤ maxLen) (hv : SliceIs w v l) :
    Calls Tryd.prog 19 #[v] w fun r w' => (∃ t, r = .returned (.string t) ∧ TextIs l t) ∧ Below w.heap.size w w' := by
  have hp := fun u1 (h : Below w.heap.size w u1) => polI_any v l u1 hl hz (hv.up h)
  have HB0 : Hid (Below w.heap.size w w) := Below.refl _ _
  obtain ⟨p, cap, rfl⟩ := hv.shape
  by_cases hA : PolR l
  · rw [decide_eq_true hA] at hp
    have HR : Hid (∀ u1, Below w.heap.size w u1 → ∀ j, j < l.length → ∃ b off, p = some ⟨b, off, none⟩ ∧ u1.cell? ⟨b, off + j * 4, none⟩ = some (.int .i64 (l.getD j ln0).1) ∧ u1.cell? ⟨b, off + j * 4 + 1, none⟩ = some (.int .i64 (l.getD j ln0).2.1) ∧ u1.cell? ⟨b, off + j * 4 + 2, none⟩ = some (.string (l.getD j ln0).2.2.1) ∧ u1.cell? ⟨b, off + j * 4 + 3, none⟩ = some (.string (l.getD j ln0).2.2.2)) := fun u1 h1 j hj => by
      rcases hv.up h1 with ⟨p', c', rfl, _⟩ | ⟨b, off, c', hb, he, hr⟩
      · simp at hj
      · simp only [Value.slice.injEq] at he
        exact ⟨b, off, he.1, hr j hj⟩
    have HK : Hid (∀ k, k < l.length → LnR (l.getD k ln0)) := hA.2
    have HT : Hid (TextIs l (ptext l l.length)) := ⟨fun _ => rfl, fun h => absurd hA h⟩
    have HZ : Hid (∀ k, k ≤ l.length → (ptext l k).size ≤ 60 * k) := ptext_size hA.2
    have HS : Hid (∀ k, ptext l (k + 1) = ptext l k ++ lineL (l.getD k ln0)) := fun k => rfl
    have hl12 : l.length ≤ 12 := hA.1
    have H0 : Hid ((⟨#[]⟩ : ByteArray) = ptext l 0) := rfl
    obtain ⟨P, hP⟩ : ∃ P, P = ptext l := ⟨_, rfl⟩
    rw [← hP] at HT HZ HS H0
    obtain ⟨n, hnn⟩ : ∃ n, n = l.length := ⟨_, rfl⟩
    rw [← hnn] at hp HR HK HT HZ hl12 ⊢
    clear hP hnn hz hv hA hl
    go_enter Tryd.func19, Tryd.ntmps19
    go_wp2_with (go_at_call 16; fail)
    refine (hp _ HB0.out).mono ?_
    rintro r u1 ⟨rfl, hb1⟩
    have HB : Hid (Below w.heap.size w u1) := hb1
    clear hb1 hp HB0
    go_wp2_with fail
    go_loopw [3, 11] (fun x i u => ∃ k : Nat, k ≤ n ∧ i = .int .i64 k ∧ x = .string (P k) ∧ Hid (Below w.heap.size w u)) (fun _ i _ => n - (intOf i).toNat)
    case atStart => exact ⟨0, Nat.zero_le _, rfl, by rw [← H0.out], HB⟩
    case round =>
      clear HB H0
      obtain ⟨k, hk, rfl, rfl, HU⟩ := hrel
      by_cases hlt : k < n
      · obtain ⟨b, off, rfl, c1, c2, c3, c4⟩ := HR.out wr HU.out k hlt
        have HLk : Hid (LnR (l.getD k ln0)) := HK.out k hlt
        have hTz := HZ.out k hk
        have HSk : Hid (P (k + 1) = P k ++ lineL (l.getD k ln0)) := HS.out k
        obtain ⟨x, hx⟩ : ∃ x, x = l.getD k ln0 := ⟨_, rfl⟩
        rw [← hx] at c1 c2 c3 c4 HLk HSk
        clear hx
        obtain ⟨x1, x2, x3, x4⟩ := x
        dsimp only at c1 c2 c3 c4
        have hsz := HLk.out.sizes
        have hln := fun u => lineOf_any HLk.out.1 x3 x4 u hsz.1 hsz.2
        have hls := lineB_size x1 x2 x3 x4 hsz.1 hsz.2
        have HSk2 : Hid (P k ++ lineB x1 x2 x3 x4 = P (k + 1)) := HSk.out.symm
        obtain ⟨L, hL⟩ : ∃ L, L = lineB x1 x2 x3 x4 := ⟨_, rfl⟩
        rw [← hL] at hln hls HSk2
        obtain ⟨T, hT⟩ : ∃ T, T = P k := ⟨_, rfl⟩
        obtain ⟨T2, hT2⟩ : ∃ T2, T2 = P (k + 1) := ⟨_, rfl⟩
        rw [← hT] at hTz HSk2 ⊢
        rw [← hT2] at HSk2
        have HT2 : Hid (T2 = P (k + 1)) := hT2
        have hTz2 : T.size ≤ 720 := by omega
        clear hL hT hT2 HSk HLk hTz hsz
        have HX : Hid (∀ o, Below w.heap.size w (wr.alloc o)) := fun o => HU.out.alloc HU.out.size o
        clear HU
        go_wp2_with (go_at_call 39; fail)
        refine (hln _).mono ?_
        rintro r w3 ⟨rfl, hb⟩
        have HB : Hid (Below w.heap.size w w3) := (HX.out _).trans (hb.mono (HX.out _).size)
        clear HX hb c1 c2 c3 c4 hln
        have hj := joined2 T L w3 (by omega)
        go_wp2_with (go_at_call 38; fail)
        refine hj.mono ?_
        rintro r w4 ⟨rfl, hb⟩
        have HB4 : Hid (Below w.heap.size w w4) := HB.out.trans (hb.mono HB.out.size)
        rw [HSk2.out]
        clear HB hb hj HSk2
        go_wp2
        exact ⟨⟨k + 1, by omega, by go_num, by rw [HT2.out], HB4⟩, by simp [intOf]; omega⟩
      · obtain rfl : k = n := by omega
        clear HK HZ HS HR
        go_wp2
        go_ret
        exact ⟨⟨_, rfl, HT.out⟩, HU.out⟩
  · have HF : Hid (TextIs l ⟨#[]⟩) := ⟨fun h => absurd h hA, fun _ => rfl⟩
    rw [decide_eq_false hA] at hp
    clear hA hz hl hv
    go_enter Tryd.func19, Tryd.ntmps19
    go_wp2_with (go_at_call 16; fail)
    refine (hp _ HB0.out).mono ?_
    rintro r u1 ⟨rfl, hb1⟩
    have HB : Hid (Below w.heap.size w u1) := hb1
    clear hb1 hp HB0
    go_wp2
    go_ret
    exact ⟨⟨_, rfl, HF.out⟩, HB.out⟩
end Go.Proofs.YtndjjhcdnlkekaaDoor.rl
