/-
  PATHS: plainly (pathB), and what the program's Path answers.
-/
import Derived.Test.YtkdgageljgfgoaaDoorRange
namespace Go.Proofs.YtkdgageljgfgoaaDoor
open Go.RowKit Go.Shelf
set_option linter.unusedSimpArgs false
attribute [local go_sem] Oper.semAt_some

def pathB (l : List ByteArray) : Bool := decide (l.length ≤ 6) && l.all (fun s => keyB s.data.toList)
/-- Behind k rounds. -/
def Good (ks : List ByteArray) (k : Nat) : Prop := k ≤ 6 ∧ ∀ j s, j < k → ks[j]? = some s → keyB s.data.toList = true
theorem path_yes {l : List ByteArray} (h : Good (l.take 7) (l.take 7).length) : pathB l = true := by
  have h6 := h.1
  rw [List.length_take] at h6
  have hl : l.length ≤ 6 := by omega
  have ht : l.take 7 = l := List.take_of_length_le (by omega)
  rw [ht] at h
  unfold pathB
  rw [Bool.and_eq_true, decide_eq_true_eq, List.all_eq_true]
  refine ⟨hl, fun s hs => ?_⟩
  obtain ⟨j, hj, rfl⟩ := List.getElem_of_mem hs
  exact h.2 j _ hj (List.getElem?_eq_getElem hj)
theorem path_no {l : List ByteArray} {k : Nat} {s : ByteArray} (hs : (l.take 7)[k]? = some s) (h : k = 6 ∨ keyB s.data.toList = false) : pathB l = false := by
  have hk := (List.getElem?_eq_some_iff.1 hs).1
  rw [List.length_take] at hk
  have hs' : l[k]? = some s := by rw [List.getElem?_take] at hs; split at hs; exact hs; cases hs
  cases hp : pathB l with
  | false => rfl
  | true =>
    unfold pathB at hp
    rw [Bool.and_eq_true, decide_eq_true_eq, List.all_eq_true] at hp
    rcases h with h | h
    · omega
    · have := hp.2 s (List.mem_of_getElem? hs')
      rw [this] at h; cases h
/-- The box of the answer. -/
def PaI (w : World) (l : List ByteArray) (x : Bool) (k : Nat) (W : World) : Prop := W.heap[w.heap.size]? = some (.cells #[.bool x] 4 (0, 0)) ∧ Below w.heap.size w W ∧ Good (l.take 7) k
theorem PaI.only {w W W' : World} {l : List ByteArray} {x : Bool} {k : Nat} {D : Nat → Prop} (h : PaI w l x k W) (ho : Only D W W') (hD : ∀ j, D j → w.heap.size + 1 ≤ j) : PaI w l x k W' :=
  ⟨(ho.block _ (Array.getElem?_eq_some_iff.1 h.1).1 (fun e => by have := hD _ e; omega)).trans h.1, Below.only h.2.1 ho h.2.1.size (fun j e => by have := hD j e; omega), h.2.2⟩

set_option maxHeartbeats 1000000 in
set_option maxRecDepth 100000 in
theorem path_any {w : World} {ao : Option Addr} {c : Nat} {l : List ByteArray} (h : Rs w ao l) (hcap : l.length ≤ c) (hn : ao = none → c = 0) (hT : Tabs w) (hlen : l.length ≤ 140737488355328) :
    Calls Tryd.prog 36 #[.slice ao l.length c] w fun e w' => e = .returned (.bool (pathB l)) ∧ Below w.heap.size w w' := by
  obtain ⟨N, hN⟩ : ∃ N, N = l.length := ⟨_, rfl⟩
  obtain ⟨M, hM⟩ : ∃ M, M = (l.take 7).length := ⟨_, rfl⟩
  have hMN : M = min N 7 := by rw [hM, List.length_take, hN]; omega
  have hsl := fun W' => sliceS_hi (ao := ao) (n := N) (c := c) (j := M) (by omega) hn W'
  have hbx : Below w.heap.size w (w.alloc (.cells #[.bool false] 4)) := (Below.refl _ w).alloc (Nat.le_refl _) _
  have hfr := fronts_any (c := c) ((h.take 7).below hbx) (by rw [← hM]; omega)
  rw [← hM] at hfr
  rw [← hN]
  have hmin : (min (N : Int) 7) = (M : Int) := by rw [hMN]; omega
  have hI0 : PaI w l false 0 (w.alloc (.cells #[.bool false] 4)) := ⟨heap_alloc_new w _, hbx, ⟨by omega, fun j s hj => by omega⟩⟩
  have hs0 : (w.alloc (.cells #[.bool false] 4)).heap.size = w.heap.size + 1 := by simp
  have HH := hide (And.intro hN (And.intro hM hMN))
  clear hN hM hMN
  refine calls_marks Tryd.func36 rfl ?_
  simp only [Tryd.ntmps36, List.size_toArray, List.length_cons, List.length_nil, Nat.reduceAdd, Nat.reduceSub, Array.replicate_succ, Array.replicate_zero, List.push_toArray, List.append_toArray, List.nil_append, List.cons_append]
  go_wp2_with (go_at_call 56; refine hfr.mono ?_; rintro e w1 ⟨L, a1, c1, rfl, hK, hL1, hA1, b1⟩)
  have hs1 := b1.size
  rw [hs0] at hs1
  have hI1 : PaI w l false 0 w1 := hI0.only (Only.ofBelow b1) (fun _ d => d.elim)
  rw [hs0] at hL1 hA1
  have hLlt : L < w1.heap.size := World.block_lt_of_cell? _ _ hK.box
  have hret : ∀ (x : Bool) (W : World) (fn : Func) (tmps : Array Value), fn.results = #[.cell 2 4] → tmps.getD 2 undef = .pointer (some ⟨w.heap.size, 0, none⟩) → W.heap[w1.heap.size]? = some (.deferred (some [])) → W.heap[w.heap.size]? = some (.cells #[.bool x] 4 (0, 0)) → Below w.heap.size w W → pathB l = x →
      LeavesInM Fence.wide 6 Tryd.prog fn tmps (fun e w' => e = .returned (.bool (pathB l)) ∧ Below w.heap.size w w') ({ target := .collected w1.heap.size, args := #[] } :: []) .returning W := fun x W fn tmps hres hp hKk hTt hbl hx => by
    have ho := only_putObj W w1.heap.size (.deferred none)
    exact leave_mark hKk (leave_cell w.heap.size (x := x) hres hp (ho.cell (by rw [cell_of_row _ _ 0 _ 4 (0, 0) hTt]; rfl) (by simp only; omega)) ⟨by rw [hx], Below.only hbl ho hbl.size (by intro j e; omega)⟩)
  have HHK := hide (And.intro h (And.intro hT hI1))
  clear h hT hI0 hbx hfr hsl b1
  refine range_fr (Q := _) L a1 c1 (l.take 7) rfl rfl hK (by rw [List.length_take]; omega) (fun j => j = w.heap.size) (by omega) (fun a ha => by have := (hA1 a ha).1; omega) (by omega) (by omega) (fun a ha => (hA1 a ha).2)
    (PaI w l false) (fun cd W => cd = .ret ∧ W.heap[w.heap.size]? = some (.cells #[.bool false] 4 (0, 0)) ∧ Below w.heap.size w W ∧ pathB l = false)
    (fun k W W' hi ho => hi.only ho (by intro j e; omega)) (fun cd W W' hi ho => ⟨hi.1, (ho.block _ (Array.getElem?_eq_some_iff.1 hi.2.1).1 (by omega)).trans hi.2.1, Below.only hi.2.2.1 ho hi.2.2.1.size (by intro j e; omega), hi.2.2.2⟩) HHK.out.2.2 ?hround ?hdone ?hstop
  case hdone =>
    intro W hi hls hKk
    obtain ⟨i1, i2, i3⟩ := hi
    have p1 : W.cell? ⟨w.heap.size, 0, none⟩ = some (.bool false) := by rw [cell_of_row _ _ 0 _ 4 (0, 0) i1]; rfl
    have z1 : W.frozen? ⟨w.heap.size, 0, none⟩ = false := frozen_of_row _ _ 0 _ 4 i1
    have HX := hide (And.intro hKk (And.intro i1 (And.intro i2 (path_yes i3))))
    clear hKk i1 i2 i3 hK
    go_wp2
    obtain ⟨hKk, i1, i2, hy⟩ := HX.out
    have ho := Only.ofGrown (grown_setCell W ⟨w.heap.size, 0, none⟩ (.bool true))
    refine hret true _ Tryd.f36 _ rfl rfl ((ho.block _ (Array.getElem?_eq_some_iff.1 hKk).1 (fun e => by have e' : w.heap.size = w1.heap.size := (by injection e); omega)).trans hKk) ?_ (Below.only i2 ho i2.size (fun j e => by have e' : w.heap.size = j := (by injection e); omega)) hy
    rw [heap_setCell_same _ _ _ _ 4 _ i1]; rfl
  case hstop =>
    rintro cd W ⟨rfl, hTt, hbl, hno⟩ hls hKk
    have HX := hide (And.intro hKk (And.intro hTt (And.intro hbl hno)))
    clear hKk hTt hbl hno hK
    go_wp2
    exact hret false _ Tryd.f36 _ rfl rfl HX.out.1 HX.out.2.1 HX.out.2.2.1 HX.out.2.2.2
  case hround =>
    intro k key v W0 W hx hi hbW0 hO hls
    have hkl := (List.getElem?_eq_some_iff.1 hx).1
    obtain ⟨av, cv, rfl, -, -, -, -⟩ := hO.shape
    have htk : ((l.take 7).take k).length = k := by rw [List.length_take]; omega
    rw [htk] at hO ⊢
    gi_wp2
    refine ⟨Only.refl _ W, fun W2 ho2 => ?_⟩
    have hi2 : PaI w l false k W2 := (hi.only (Only.ofBelow hbW0) (fun _ d => d.elim)).only ho2 (by intro j e; omega)
    have hsz2 : w.heap.size < W0.heap.size := by omega
    have p1 : W2.cell? ⟨w.heap.size, 0, none⟩ = some (.bool false) := by rw [cell_of_row _ _ 0 _ 4 (0, 0) hi2.1]; rfl
    have z1 : W2.frozen? ⟨w.heap.size, 0, none⟩ = false := frozen_of_row _ _ 0 _ 4 hi2.1
    have hky := key_any key W2 (Tabs.below HHK.out.2.1 hi2.2.1)
    have hstop : ∀ W3 : World, Below W2.heap.size W2 W3 → pathB l = false → Only (Turns (fun j => j = w.heap.size) W0.heap.size (.slice av k cv)) W2 (W3.setCell ⟨w.heap.size, 0, none⟩ (.bool false)) ∧ (W3.setCell ⟨w.heap.size, 0, none⟩ (.bool false)).heap[w.heap.size]? = some (.cells #[.bool false] 4 (0, 0)) ∧ Below w.heap.size w (W3.setCell ⟨w.heap.size, 0, none⟩ (.bool false)) := fun W3 b3 _ => by
      have i3 := hi2.only (Only.ofBelow b3) (fun _ d => d.elim)
      refine ⟨(((Only.ofBelow b3).mono (fun _ _ d => d.elim)).setCell _ _ (fun _ => .inl ⟨rfl, hsz2⟩)), ?_, i3.2.1.setCell (p := ⟨w.heap.size, 0, none⟩) (Nat.le_refl _) _⟩
      rw [heap_setCell_same _ _ _ _ 4 _ i3.1]; rfl
    have HS := hide hstop
    have HI2 := hide hi2
    clear hi hi2 hO hbW0 ho2 hstop hK
    by_cases h6 : k = 6
    · have h6b : ((k : Int) == 6) = true := by simp [h6]
      have hno := path_no hx (.inl h6)
      have HN := hide hno
      clear hno h6 hky hx
      gi_wp2_with (refine ⟨trivial, ?_⟩)
      obtain ⟨q1, q2, q3⟩ := HS.out W2 (Below.refl _ _) HN.out
      exact ⟨q1, rfl, q2, q3, HN.out⟩
    · have h6b : ((k : Int) == 6) = false := by simp; omega
      cases hkb : keyB key.data.toList with
      | false =>
        rw [hkb] at hky
        have hno := path_no hx (.inr hkb)
        have HN := hide hno
        clear hno h6 hx hkb
        gi_wp2_with (refine ⟨trivial, ?_⟩; gi_at_call 37; refine (callsIn_wide.2 hky).mono ?_; rintro e W3 ⟨rfl, b3⟩; have p3 := (b3.cell (World.block_lt_of_cell? _ _ p1)).trans p1; have z3 : W3.frozen? ⟨w.heap.size, 0, none⟩ = false := frozen_of_row _ _ 0 _ 4 ((b3.block _ (Array.getElem?_eq_some_iff.1 HI2.out.1).1).trans HI2.out.1))
        obtain ⟨q1, q2, q3⟩ := HS.out W3 b3 HN.out
        exact ⟨q1, rfl, q2, q3, HN.out⟩
      | true =>
        rw [hkb] at hky
        have hgd : Good (l.take 7) (k + 1) := by
          have hg := HI2.out.2.2
          refine ⟨by have := hg.1; omega, fun j s hj hs => ?_⟩
          by_cases hjk : j = k
          · subst hjk
            rw [hx] at hs
            cases hs
            exact hkb
          · exact hg.2 j s (by omega) hs
        have HG := hide hgd
        clear hgd h6 hx hkb
        gi_wp2_with (refine ⟨trivial, ?_⟩; gi_at_call 37; refine (callsIn_wide.2 hky).mono ?_; rintro e W3 ⟨rfl, b3⟩)
        refine ⟨(Only.ofBelow b3).mono (fun _ _ d => d.elim), ?_⟩
        have i3 := HI2.out.only (Only.ofBelow b3) (fun _ d => d.elim)
        exact ⟨i3.1, i3.2.1, HG.out⟩
end Go.Proofs.YtkdgageljgfgoaaDoor
