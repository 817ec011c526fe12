/-
  Two rising lists of elements run together over a base: the document's way, plainly.
  The document's find 91; the laws' much 21.
  The document's Elements 67.
  tagset: the document's has (134) and Three (38).
  What Put does to a list: order, members, length; what Get finds.
-/
import Derived.Test.YtkkpdgfllnbigaaGreatMg18
import Derived.Test.YtkkpdgfllnbigaaGreatMg17
import Derived.Test.YtkkpdgfllnbigaaGreatMg15
import Derived.Test.YtkkpdgfllnbigaaGreatMg11
import Derived.Test.YtkkpdgfllnbigaaGreatMg6
import Derived.Test.YtkkpdgfllnbigaaGreatMg9
import Derived.Test.YtkkpdgfllnbigaaGreatSort1
import Derived.Test.YtkkpdgfllnbigaaGreatTgSo
namespace Go.Proofs.YtkkpdgfllnbigaaGreat
open Go.RowKit Go.Shelf
theorem ordS_T : Rise.OrdS cmpT := ⟨ord_T.range, ord_T.anti, ord_T.eq, ord_T.trans⟩
/-- Rising by stamps. -/
abbrev UpE (l : List El) : Prop := UpS l
theorem UpS.rise {l : List El} (h : UpS l) : ∀ (i j : Nat) (x y : El), i < j → l[i]? = some x → l[j]? = some y → cmpT x.1 y.1 = -1 := fun i j x y hij hx hy => by
  obtain ⟨hi, e1⟩ := List.getElem?_eq_some_iff.1 hx
  obtain ⟨hj, e2⟩ := List.getElem?_eq_some_iff.1 hy
  rw [← e1, ← e2]
  exact List.pairwise_iff_getElem.1 h i j hi hj hij
/-- Does a stamp stand in a list? -/
def standsB (s : St) (l : List El) : Bool := l.any fun y => decide (y.1 = s)
theorem standsB_iff (s : St) (l : List El) : standsB s l = true ↔ ∃ y ∈ l, y.1 = s := by
  unfold standsB; rw [List.any_eq_true]; simp
theorem drop_at {l : List El} {i : Nat} {x : El} (h : l[i]? = some x) : l.drop i = x :: l.drop (i + 1) := by
  obtain ⟨hi, e⟩ := List.getElem?_eq_some_iff.1 h
  rw [List.drop_eq_getElem_cons hi, e]
/-- All that was passed of b is ahead of what is left of a. -/
def Past (a b : List El) (i k : Nat) : Prop := ∀ j y, j < k → b[j]? = some y → ∀ x ∈ a.drop i, cmpT y.1 x.1 = -1
theorem Past.left {a b : List El} {i k : Nat} (h : Past a b i k) : Past a b (i + 1) k := fun j y hj hy x hx => h j y hj hy x (by
  rw [← List.drop_drop] at hx
  exact List.mem_of_mem_drop hx)
theorem up_next {a : List El} (u : UpE a) {i : Nat} {x z : El} (h : a[i]? = some x) (hz : z ∈ a.drop (i + 1)) : cmpT x.1 z.1 = -1 := by
  obtain ⟨j, hj, e⟩ := List.getElem_of_mem hz
  rw [List.getElem_drop] at e
  have hl : i + 1 + j < a.length := by rw [List.length_drop] at hj; omega
  exact u.rise i (i + 1 + j) x z (by omega) h (by rw [List.getElem?_eq_getElem hl, e])
theorem Past.right {a b : List El} {i k : Nat} (h : Past a b i k) (ua : UpE a) {x y : El} (hx : a[i]? = some x) (hy : b[k]? = some y) (hg : ¬ cmpT x.1 y.1 ≤ 0) : Past a b i (k + 1) := fun j z hj hz u hu => by
  by_cases hjk : j = k
  · subst hjk
    rw [hy] at hz
    cases hz
    have hyx : cmpT y.1 x.1 = -1 := by
      have h1 := ordS_T.anti y.1 x.1
      have h2 := ordS_T.range y.1 x.1
      omega
    rw [drop_at hx] at hu
    rcases List.mem_cons.1 hu with rfl | hu
    · exact hyx
    · exact ordS_T.trans _ _ _ hyx (up_next ua hx hu)
  · exact h j z (by omega) hz u hu
theorem Past.end {a b : List El} {k : Nat} : Past a b a.length k := fun j y _ _ x hx => by
  rw [List.drop_length] at hx; cases hx
theorem Past.gone {a b : List El} {i k : Nat} (h : Past a b i k) {x : El} (hx : a[i]? = some x) {j : Nat} {y : El} (hj : j < k) (hy : b[j]? = some y) : y.1 ≠ x.1 := fun e => by
  have := h j y hj hy x (by rw [drop_at hx]; exact List.mem_cons_self)
  rw [e, ordS_T.refl] at this
  omega
theorem Past.none {a b : List El} {i : Nat} (h : Past a b i b.length) {x : El} (hx : a[i]? = some x) : standsB x.1 b = false := by
  rw [Bool.eq_false_iff, Ne, standsB_iff]
  rintro ⟨y, hy, e⟩
  obtain ⟨j, hj, e2⟩ := List.getElem_of_mem hy
  exact h.gone hx hj (by rw [List.getElem?_eq_getElem hj, e2]) e
theorem Past.same {a b : List El} {i k : Nat} (h : Past a b i k) (ub : UpE b) {x y : El} (hx : a[i]? = some x) (hy : b[k]? = some y) (hl : cmpT x.1 y.1 ≤ 0) (hs : standsB x.1 b = true) : y.1 = x.1 := by
  obtain ⟨z, hz, e⟩ := (standsB_iff _ _).1 hs
  obtain ⟨j, hj, e2⟩ := List.getElem_of_mem hz
  have hzj : b[j]? = some z := by rw [List.getElem?_eq_getElem hj, e2]
  by_cases hjk : j < k
  · exact absurd e (h.gone hx hjk hzj)
  by_cases hkj : j = k
  · subst hkj
    rw [hy] at hzj
    cases hzj
    exact e
  have := ub.rise k j y z (by omega) hy hzj
  rw [e] at this
  have h1 := ordS_T.anti y.1 x.1
  omega
theorem Past.both {a b : List El} {i k : Nat} (h : Past a b i k) (ua : UpE a) {x y : El} (hx : a[i]? = some x) (hy : b[k]? = some y) (e : y.1 = x.1) : Past a b (i + 1) (k + 1) := fun j z hj hz u hu => by
  by_cases hjk : j = k
  · subst hjk
    rw [hy] at hz
    cases hz
    rw [e]
    exact up_next ua hx hu
  · exact h.left j z (by omega) hz u hu
end Go.Proofs.YtkkpdgfllnbigaaGreat
namespace Go.Proofs.YtkkpdgfllnbigaaGreat
open Go.RowKit Go.Shelf
set_option linter.unusedSimpArgs false
attribute [local go_sem] Oper.semAt_some

/-- A stamp's place, or -1. -/
def FindE (w : World) (s : St) (l : List El) (e : Ending) (w' : World) : Prop := ∃ n : Int, e = .returned (.int .i64 n) ∧ (standsB s l = true → 0 ≤ n) ∧ (standsB s l = false → n < 0) ∧ Below w.heap.size w w'
set_option maxHeartbeats 4000000 in
set_option maxRecDepth 100000 in
theorem find_any {w : World} {ao : Option Addr} {c : Nat} {l : List El} (s : St) (h : Re w ao l) (hl : l.length ≤ 1000000) : Calls Tryz.prog 195 #[.slice ao l.length c, svT s] w (FindE w s l) := by
  obtain ⟨N, hN⟩ : ∃ N, N = l.length := ⟨_, rfl⟩
  rw [← hN] at hl ⊢
  have hne := fun y W => run_eq52' y s W
  have hst := standsB_iff s l
  obtain ⟨g, r, l0, n0, i0⟩ := s
  obtain ⟨w1, hw1⟩ : ∃ w1, w1 = w.alloc (.cells #[.int .i64 g, .int .i64 r, .string l0, .int .i64 n0, .int .i64 i0] 43) := ⟨_, rfl⟩
  have b1 : Below w.heap.size w w1 := by rw [hw1]; exact (Below.refl _ w).alloc (Nat.le_refl _) _
  have m1 := heap_alloc_new w (.cells #[.int .i64 g, .int .i64 r, .string l0, .int .i64 n0, .int .i64 i0] 43)
  rw [← hw1] at m1
  obtain ⟨Y, hY⟩ : ∃ Y, Y = w.heap.size := ⟨_, rfl⟩
  rw [← hY] at m1
  have hre := h.below b1
  have y0 : w1.cell? ⟨Y, 0, none⟩ = some (.int .i64 g) := (cell_of_row _ _ 0 _ 43 (0, 0) m1).trans rfl
  have y1 : w1.cell? ⟨Y, 1, none⟩ = some (.int .i64 r) := (cell_of_row _ _ 1 _ 43 (0, 0) m1).trans rfl
  have y2 : w1.cell? ⟨Y, 2, none⟩ = some (.string l0) := (cell_of_row _ _ 2 _ 43 (0, 0) m1).trans rfl
  have y3 : w1.cell? ⟨Y, 3, none⟩ = some (.int .i64 n0) := (cell_of_row _ _ 3 _ 43 (0, 0) m1).trans rfl
  have y4 : w1.cell? ⟨Y, 4, none⟩ = some (.int .i64 i0) := (cell_of_row _ _ 4 _ 43 (0, 0) m1).trans rfl
  have HC := hide (And.intro y0 (And.intro y1 (And.intro y2 (And.intro y3 (And.intro y4 hre)))))
  have HW := hide (And.intro hw1 (And.intro b1 (And.intro hY (And.intro hN hst))))
  clear h m1 b1 hre y0 y1 y2 y3 y4 hw1 hY hN hst
  go_enter Tryz.func195, Tryz.ntmps195
  go_upto_region 1 with fail
  obtain ⟨e1, -, e2, -, -⟩ := HW.out
  rw [← e1, ← e2]
  clear e1 e2
  go_wp2
  go_loopw [5] (fun iv wr => ∃ i : Nat, i ≤ N ∧ iv = .int .i64 i ∧ Hid (∀ j y, j < i → l[j]? = some y → y.1 ≠ (g, r, l0, n0, i0)) ∧ ∃ q, wr = w1.drewN q) (fun iv _ => N - (intOf iv).toNat)
  case atStart => exact ⟨0, by omega, rfl, hide (fun j y hj => by omega), 0, rfl⟩
  case round =>
    obtain ⟨i, hi, rfl, hrest, q, hwr⟩ := hrel
    have up : ∀ a v, w1.cell? a = some v → wr.cell? a = some v := fun a v hv => by rw [hwr]; exact hv
    have y0 := up _ _ HC.out.1
    have y1 := up _ _ HC.out.2.1
    have y2 := up _ _ HC.out.2.2.1
    have y3 := up _ _ HC.out.2.2.2.1
    have y4 := up _ _ HC.out.2.2.2.2.1
    have hlr : Re wr ao l := by rw [hwr]; exact ⟨HC.out.2.2.2.2.2.1, HC.out.2.2.2.2.2.2⟩
    have HWR := hide hwr
    clear hwr up
    by_cases h1 : i < N
    · have z1 : (i : Int) < (N : Int) := by omega
      have d1 : decide (i < N) = true := by simpa using h1
      obtain ⟨y, hy⟩ : ∃ y, l[i]? = some y := ⟨_, List.getElem?_eq_getElem (by rw [← HW.out.2.2.2.1]; exact h1)⟩
      obtain ⟨ab, off, rfl, q0, q1, q2, q3, q4, q5⟩ := hlr.cells hy
      have hne1 := fun W => hne y.1 W
      have HX := hide hy
      clear hy hlr hne
      by_cases hxy : y.1 = (g, r, l0, n0, i0)
      · have d2 : decide (y.1 = (g, r, l0, n0, i0)) = true := by simpa using hxy
        rw [d2] at hne1
        have HXY := hide hxy
        clear hxy d2
        obtain ⟨⟨g', r', l0', n0', i0'⟩, t0'⟩ := y
        dsimp only at q0 q1 q2 q3 q4 q5 hne1
        go_wp2
        go_quiet (fail)
        go_wp2
        go_ret
        refine ⟨_, rfl, fun _ => by omega, fun hs => ?_, ?_⟩
        · rw [HW.out.2.2.2.2.2 ⟨_, List.mem_of_getElem? HX.out, HXY.out⟩] at hs
          cases hs
        · rw [HWR.out]; exact below_drw (below_drw HW.out.2.1 _) _
      · have d2 : decide (y.1 = (g, r, l0, n0, i0)) = false := by simpa using hxy
        rw [d2] at hne1
        have HXY := hide hxy
        clear hxy d2
        obtain ⟨⟨g', r', l0', n0', i0'⟩, t0'⟩ := y
        dsimp only at q0 q1 q2 q3 q4 q5 hne1
        go_wp2
        go_quiet (fail)
        go_wp2
        go_roundw
        case rel =>
          refine ⟨i + 1, by omega, by go_num, hide (fun j z hj hz => ?_), _, by rw [HWR.out, World.drewN_drewN]⟩
          by_cases hji : j = i
          · subst hji
            rw [HX.out] at hz
            cases hz
            exact HXY.out
          · exact hrest.out j z (by omega) hz
        case measure => simp [intOf]; omega
    · obtain rfl : i = N := by omega
      have d1 : decide (i < i) = false := by simp
      go_wp2
      go_ret
      refine ⟨_, rfl, fun hs => ?_, fun _ => by omega, ?_⟩
      · obtain ⟨y, hm, e⟩ := HW.out.2.2.2.2.1 hs
        obtain ⟨j, hj, e2⟩ := List.getElem_of_mem hm
        exact absurd (by rw [e2]; exact e) (hrest.out j _ (by rw [HW.out.2.2.2.1]; exact hj) (List.getElem?_eq_getElem hj))
      · rw [HWR.out]; exact below_drw HW.out.2.1 _
end Go.Proofs.YtkkpdgfllnbigaaGreat
namespace Go.Proofs.YtkkpdgfllnbigaaGreat
open Go.RowKit Go.Shelf
set_option linter.unusedSimpArgs false
attribute [local go_sem] Oper.semAt_some

/-- A list is answered, owned. -/
def ChgE (w : World) (L : List El) (e : Ending) (w' : World) : Prop := ∃ a' c', e = .returned (.slice a' L.length c') ∧ Oe w' w.heap.size (.slice a' L.length c') L ∧ Below w.heap.size w w'
theorem pushT {B : Nat} {w w2 : World} {ao : Option Addr} {c : Nat} {p : List El} (x : El) (H : Hid (Below B w w2 ∧ Oe w2 B (.slice ao p.length c) p)) (hB : B ≤ w.heap.size) (hp : p.length ≤ 200000) {ops : Array Oper} {rest : List Oper} {o : Oper} {a : Act} {Q : Exit → Act → World → Prop} (hg : o.guard = none) (s t : Operand) (ho : o.op = .call { callee := .builtin .append, args := #[s, t], argTypes := #[22, 22] })
      (hs : a.eval s = .slice ao p.length c) (ht : a.eval t = .slice (some ⟨w2.heap.size, 0, none⟩) 1 1)
      (hk : ∀ ao' cap' w', Hid ((ao' = none → cap' = 0) ∧ Below B w w' ∧ Oe w' B (.slice ao' (p.length + 1) cap') (p ++ [x])) → wpList Tryz.prog ops Q rest (a.put o.dst (.slice ao' (p.length + 1) cap')) w') :
      wpList Tryz.prog ops Q (o :: rest) a (w2.alloc (.cells (encE x).toArray 53)) := by
  have hb2 := H.out.1
  have hO := H.out.2
  have hbA : Below B w (w2.alloc (.cells (encE x).toArray 53)) := hb2.alloc (by have := hb2.size; omega) _
  refine wpList_pushE hg s t ho B _ p hs (hO.alloc _) w2.heap.size 1 x ht (heap_alloc_new w2 _) (by omega) (by simp; have := hb2.size; omega) ?_
  intro ao' cap' w' h1 h2 h3
  have hb := below_oe hbA (by simp; have := hb2.size; omega) (hO.alloc _) h2
  exact hk ao' cap' w' (hide ⟨h3, hb, h1⟩)

theorem nextB {w a b : World} (h : Below w.heap.size w a) (k : Below a.heap.size a b) : Below w.heap.size w b := h.trans (k.mono h.size)
end Go.Proofs.YtkkpdgfllnbigaaGreat
namespace Go.Proofs.YtkkpdgfllnbigaaGreat.Tg
open Go.RowKit Go.Shelf
set_option linter.unusedSimpArgs false
set_option linter.unusedVariables false
attribute [local go_sem] Oper.semAt_some

theorem cells_of_enc {W : World} {B : Nat} {g r : Int} {lb : ByteArray} {n ix : Int} {X : ByteArray} (h : W.heap[B]? = some (.cells #[.int .i64 g, .int .i64 r, .string lb, .int .i64 n, .int .i64 ix, .string X] 53 (0, 0))) : W.cell? ⟨B, 0, none⟩ = some (.int .i64 g) ∧ W.cell? ⟨B, 1, none⟩ = some (.int .i64 r) ∧ W.cell? ⟨B, 2, none⟩ = some (.string lb) ∧ W.cell? ⟨B, 3, none⟩ = some (.int .i64 n) ∧ W.cell? ⟨B, 4, none⟩ = some (.int .i64 ix) ∧ W.cell? ⟨B, 5, none⟩ = some (.string X) :=
  ⟨(cell_of_row _ _ 0 _ 53 (0, 0) h).trans rfl, (cell_of_row _ _ 1 _ 53 (0, 0) h).trans rfl, (cell_of_row _ _ 2 _ 53 (0, 0) h).trans rfl, (cell_of_row _ _ 3 _ 53 (0, 0) h).trans rfl, (cell_of_row _ _ 4 _ 53 (0, 0) h).trans rfl, (cell_of_row _ _ 5 _ 53 (0, 0) h).trans rfl⟩
/-- Is it there? -/
def inB (x : El) (l : List El) : Bool := l.any fun y => decide (y = x)
theorem inB_iff (x : El) (l : List El) : inB x l = true ↔ x ∈ l := by
  unfold inB; rw [List.any_eq_true]
  exact ⟨fun ⟨y, hy, e⟩ => by rw [← of_decide_eq_true e]; exact hy, fun h => ⟨x, h, decide_eq_true rfl⟩⟩
set_option maxHeartbeats 4000000 in
set_option maxRecDepth 100000 in
theorem has134 {w : World} {ao : Option Addr} {c : Nat} {l : List El} (x : El) (h : Re w ao l) (hl : l.length ≤ 1000000) : Calls Tryz.prog 134 #[.slice ao l.length c, ev x] w fun e w' => e = .returned (.bool (inB x l)) ∧ Below w.heap.size w w' := by
  obtain ⟨N, hN⟩ : ∃ N, N = l.length := ⟨_, rfl⟩
  obtain ⟨R, hR⟩ : ∃ R, R = inB x l := ⟨_, rfl⟩
  rw [← hR]
  rw [← hN] at hl ⊢
  have hne := fun y W => run_eq77 y x W
  obtain ⟨⟨g, r, l0, n0, i0⟩, t0⟩ := x
  obtain ⟨w1, hw1⟩ : ∃ w1, w1 = w.alloc (.cells #[.int .i64 g, .int .i64 r, .string l0, .int .i64 n0, .int .i64 i0, .string t0] 53) := ⟨_, rfl⟩
  have b1 : Below w.heap.size w w1 := by rw [hw1]; exact (Below.refl _ w).alloc (Nat.le_refl _) _
  have m1 := heap_alloc_new w (.cells #[.int .i64 g, .int .i64 r, .string l0, .int .i64 n0, .int .i64 i0, .string t0] 53)
  rw [← hw1] at m1
  obtain ⟨Y, hY⟩ : ∃ Y, Y = w.heap.size := ⟨_, rfl⟩
  rw [← hY] at m1
  have hre := h.below b1
  obtain ⟨y0, y1, y2, y3, y4, y5⟩ := cells_of_enc m1
  have HC := hide (And.intro y0 (And.intro y1 (And.intro y2 (And.intro y3 (And.intro y4 (And.intro y5 hre))))))
  have HW := hide (And.intro hw1 (And.intro b1 (And.intro hY (And.intro hN hR))))
  clear h m1 b1 hre y0 y1 y2 y3 y4 y5 hw1 hY hN hR
  dsimp only [ev]
  go_enter Tryz.func134, Tryz.ntmps134
  go_upto_region 1 with fail
  rw [← HW.out.1, ← HW.out.2.2.1]
  go_wp2
  go_loopw [5] (fun iv wr => ∃ i : Nat, i ≤ N ∧ iv = .int .i64 i ∧ Hid (∀ j y, j < i → l[j]? = some y → y ≠ ((g, r, l0, n0, i0), t0)) ∧ ∃ q, wr = w1.drewN q) (fun iv _ => N - (intOf iv).toNat)
  case atStart => exact ⟨0, by omega, rfl, hide (fun j y hj => by omega), 0, rfl⟩
  case round =>
    obtain ⟨i, hi, rfl, hrest, q, hwr⟩ := hrel
    have up : ∀ a v, w1.cell? a = some v → wr.cell? a = some v := fun a v hv => by rw [hwr]; exact hv
    have y0 := up _ _ HC.out.1
    have y1 := up _ _ HC.out.2.1
    have y2 := up _ _ HC.out.2.2.1
    have y3 := up _ _ HC.out.2.2.2.1
    have y4 := up _ _ HC.out.2.2.2.2.1
    have y5 := up _ _ HC.out.2.2.2.2.2.1
    have hlr : Re wr ao l := by rw [hwr]; exact ⟨HC.out.2.2.2.2.2.2.1, HC.out.2.2.2.2.2.2.2⟩
    have HWR := hide hwr
    clear hwr up
    by_cases h1 : i < N
    · have z1 : (i : Int) < (N : Int) := by omega
      have d1 : decide (i < N) = true := by simpa using h1
      obtain ⟨y, hy⟩ : ∃ y, l[i]? = some y := ⟨_, List.getElem?_eq_getElem (by rw [← HW.out.2.2.2.1]; exact h1)⟩
      obtain ⟨ab, off, rfl, q0, q1, q2, q3, q4, q5⟩ := hlr.cells hy
      have hne1 := fun W => hne y W
      have HX := hide hy
      clear hy hlr hne
      by_cases hxy : y = ((g, r, l0, n0, i0), t0)
      · have d2 : decide (y = ((g, r, l0, n0, i0), t0)) = true := by simpa using hxy
        rw [d2] at hne1
        have hd : R = true := by rw [HW.out.2.2.2.2]; exact (inB_iff _ _).2 (by rw [← hxy]; exact List.mem_of_getElem? HX.out)
        have HXY := hide hd
        clear hxy d2 hd
        obtain ⟨⟨g', r', l0', n0', i0'⟩, t0'⟩ := y
        dsimp only [ev] at q0 q1 q2 q3 q4 q5 hne1
        go_wp2
        go_quiet (fail)
        go_wp2
        go_ret
        exact ⟨by first | (rw [HXY.out]; rfl) | rw [HXY.out], by rw [HWR.out]; exact below_drw (below_drw HW.out.2.1 _) _⟩
      · have d2 : decide (y = ((g, r, l0, n0, i0), t0)) = false := by simpa using hxy
        rw [d2] at hne1
        have HXY := hide hxy
        clear hxy d2
        obtain ⟨⟨g', r', l0', n0', i0'⟩, t0'⟩ := y
        dsimp only [ev] at q0 q1 q2 q3 q4 q5 hne1
        go_wp2
        go_quiet (fail)
        go_wp2
        go_roundw
        case rel =>
          refine ⟨i + 1, by omega, by go_num, hide (fun j z hj hz => ?_), _, by rw [HWR.out, World.drewN_drewN]⟩
          by_cases hji : j = i
          · subst hji
            rw [HX.out] at hz
            cases hz
            exact HXY.out
          · exact hrest.out j z (by omega) hz
        case measure => simp [intOf]; omega
    · obtain rfl : i = N := by omega
      have d1 : decide (i < i) = false := by simp
      have hd : R = false := by
        rw [HW.out.2.2.2.2, Bool.eq_false_iff, Ne, inB_iff]
        intro hm
        obtain ⟨j, hj, e2⟩ := List.getElem_of_mem hm
        exact hrest.out j _ (by rw [HW.out.2.2.2.1]; exact hj) (List.getElem?_eq_getElem hj) e2
      have HD := hide hd
      clear hd
      go_wp2
      go_ret
      exact ⟨by first | (rw [HD.out]; rfl) | rw [HD.out], by rw [HWR.out]; exact below_drw HW.out.2.1 _⟩
def thA (base b l : List El) : List El := l.filter fun x => inB x b || !inB x base
def thB (base a l : List El) : List El := l.filter fun x => !inB x a && !inB x base
def thr (base a b : List El) : List El := thA base b a ++ thB base a b
theorem filter_step {P : El → Bool} {l : List El} {i : Nat} {x : El} (h : l[i]? = some x) : (l.take (i + 1)).filter P = (l.take i).filter P ++ (if P x = true then [x] else []) := by
  rw [List.take_add_one, h]
  simp only [Option.toList, List.filter_append]
  congr 1
  by_cases hp : P x = true <;> simp [hp]
theorem thr_mem {base a b : List El} (z : El) : z ∈ thr base a b ↔ (z ∈ a ∧ (z ∈ b ∨ z ∉ base)) ∨ (z ∈ b ∧ z ∉ a ∧ z ∉ base) := by
  have h1 : ∀ (x : El) (l : List El), inB x l = false ↔ x ∉ l := fun x l => by rw [Bool.eq_false_iff, Ne, inB_iff]
  unfold thr thA thB
  simp only [List.mem_append, List.mem_filter, Bool.or_eq_true, Bool.and_eq_true, Bool.not_eq_true', inB_iff, h1]
theorem thr_ok {base a b : List El} (ha : ∀ x ∈ a, okEl x = true) (hb : ∀ x ∈ b, okEl x = true) : ∀ x ∈ thr base a b, okEl x = true := fun x hx => by
  rcases (thr_mem x).1 hx with h | h
  · exact ha x h.1
  · exact hb x h.1
theorem thr_len (base a b : List El) : (thr base a b).length ≤ a.length + b.length := by
  unfold thr thA thB
  rw [List.length_append]
  have := List.length_filter_le (fun x => inB x b || !inB x base) a
  have := List.length_filter_le (fun x => !inB x a && !inB x base) b
  omega
theorem thr_nodup {base a b : List El} (ha : a.Nodup) (hb : b.Nodup) : (thr base a b).Nodup := by
  unfold thr
  rw [List.nodup_append]
  refine ⟨ha.filter _, hb.filter _, fun x hx y hy e => ?_⟩
  unfold thA at hx
  unfold thB at hy
  rw [List.mem_filter] at hx hy
  simp only [Bool.and_eq_true, Bool.not_eq_true'] at hy
  have h1 := hy.2.1
  rw [Bool.eq_false_iff, Ne, inB_iff, ← e] at h1
  exact h1 hx.1
set_option maxHeartbeats 8000000 in
set_option maxRecDepth 100000 in
theorem three38 {w : World} {oo oa ob : Option Addr} {co ca cb : Nat} {base a b : List El} (ho : Re w oo base) (ha : Re w oa a) (hb : Re w ob b) (hlo : base.length ≤ 1000) (hla : a.length ≤ 1000) (hlb : b.length ≤ 1000) (oka : ∀ x ∈ a, okEl x = true) (okb : ∀ x ∈ b, okEl x = true) :
    Calls Tryz.prog 38 #[.slice oo base.length co, .slice oa a.length ca, .slice ob b.length cb] w (ChgE w (srtQ (thr base a b))) := by
  obtain ⟨NO, hNO⟩ : ∃ N, N = base.length := ⟨_, rfl⟩
  obtain ⟨NA, hNA⟩ : ∃ N, N = a.length := ⟨_, rfl⟩
  obtain ⟨NB, hNB⟩ : ∃ N, N = b.length := ⟨_, rfl⟩
  have kO : ∀ (x : El) W, Below w.heap.size w W → Calls Tryz.prog 134 #[.slice oo NO co, ev x] W fun e w' => e = .returned (.bool (inB x base)) ∧ Below W.heap.size W w' := fun x W hW => by rw [hNO]; exact has134 x (ho.below hW) (by omega)
  have kA : ∀ (x : El) W, Below w.heap.size w W → Calls Tryz.prog 134 #[.slice oa NA ca, ev x] W fun e w' => e = .returned (.bool (inB x a)) ∧ Below W.heap.size W w' := fun x W hW => by rw [hNA]; exact has134 x (ha.below hW) (by omega)
  have kB : ∀ (x : El) W, Below w.heap.size w W → Calls Tryz.prog 134 #[.slice ob NB cb, ev x] W fun e w' => e = .returned (.bool (inB x b)) ∧ Below W.heap.size W w' := fun x W hW => by rw [hNB]; exact has134 x (hb.below hW) (by omega)
  rw [← hNO, ← hNA, ← hNB]
  have HN := hide (And.intro hNA (And.intro hNB (And.intro ha hb)))
  have HOK := hide (And.intro oka okb)
  rw [← hNA] at hla
  rw [← hNB] at hlb
  clear hNO hNA hNB ho ha hb hlo oka okb
  go_enter Tryz.func38, Tryz.ntmps38
  go_wp2
  go_loopw [7, 8] (fun v7 v8 wr => ∃ (i : Nat) (p : List El) (ao : Option Addr) (c : Nat), i ≤ NA ∧ p.length ≤ i ∧ v8 = .int .i64 i ∧ v7 = .slice ao p.length c ∧ Hid (p = thA base b (a.take i) ∧ Below w.heap.size w wr ∧ Oe wr w.heap.size (.slice ao p.length c) p)) (fun _ v8 _ => NA - (intOf v8).toNat)
  case atStart => exact ⟨0, [], none, 0, Nat.zero_le _, Nat.zero_le _, rfl, rfl, hide ⟨rfl, Below.refl _ _, Oe.nil _ _⟩⟩
  case round =>
    obtain ⟨i, p, ao, c, hi, hpl, rfl, rfl, hP⟩ := hrel
    by_cases hgo : i < NA
    · have z1 : (i : Int) < (NA : Int) := by omega
      have d1 : decide (i < NA) = true := by simpa using hgo
      obtain ⟨x, hx⟩ : ∃ x, a[i]? = some x := ⟨_, List.getElem?_eq_getElem (by rw [← HN.out.1]; exact hgo)⟩
      obtain ⟨b0, o0, hao, q0, q1, q2, q3, q4, q5⟩ := HN.out.2.2.1.cells hx
      have hst := filter_step (P := (fun x => inB x b || !inB x base)) hx
      obtain ⟨V1, hV1⟩ : ∃ V, V = inB x b := ⟨_, rfl⟩
      obtain ⟨V2, hV2⟩ : ∃ V, V = inB x base := ⟨_, rfl⟩
      have k1 := kB x
      have k2 := kO x
      rw [← hV1] at k1
      rw [← hV2] at k2
      try dsimp only at hst
      rw [← hV1, ← hV2] at hst
      subst hao
      obtain ⟨⟨g, r, l0, n0, i0⟩, t0⟩ := x
      dsimp only [ev] at q0 q1 q2 q3 q4 q5 k1 k2
      have HC : Hid (∀ W, Below w.heap.size w W → W.cell? ⟨b0, o0 + i * 6, none⟩ = some (.int .i64 g) ∧ W.cell? ⟨b0, o0 + i * 6 + 1, none⟩ = some (.int .i64 r) ∧ W.cell? ⟨b0, o0 + i * 6 + 2, none⟩ = some (.string l0) ∧ W.cell? ⟨b0, o0 + i * 6 + 3, none⟩ = some (.int .i64 n0) ∧ W.cell? ⟨b0, o0 + i * 6 + 4, none⟩ = some (.int .i64 i0) ∧ W.cell? ⟨b0, o0 + i * 6 + 5, none⟩ = some (.string t0)) := hide (fun W hW => ⟨cell_stays q0 hW, cell_stays q1 hW, cell_stays q2 hW, cell_stays q3 hW, cell_stays q4 hW, cell_stays q5 hW⟩)
      have HST := hide hst
      have HP := hide (And.intro hP.out.2.1 hP.out.2.2)
      have HE := hide hP.out.1
      obtain ⟨r0, r1, r2, r3, r4, r5⟩ := HC.out _ HP.out.1
      clear hx hst hV1 hV2 q0 q1 q2 q3 q4 q5 hP
      cases V1 with
      | true =>
        go_wp2_with (first | (refine pushT ((g, r, l0, n0, i0), t0) H1 (Nat.le_refl _) (by omega) rfl _ _ rfl rfl rfl ?_; intro a4 c4 w4 H4) | (go_at_call 134; refine (k1 _ HP.out.1).mono ?_; rintro e w1 ⟨rfl, b1⟩; have H1 := hide (And.intro (nextB HP.out.1 b1) (HP.out.2.below b1)); obtain ⟨s0, s1, s2, s3, s4, s5⟩ := HC.out w1 H1.out.1; clear b1; dsimp only))
        go_roundw
        case rel => exact ⟨i + 1, p ++ [((g, r, l0, n0, i0), t0)], a4, c4, by omega, by simp; omega, by go_num, by simp, hide ⟨by rw [HE.out]; unfold thA; rw [HST.out]; simp, H4.out.2.1, by simpa using H4.out.2.2⟩⟩
        case measure => simp [intOf]; omega
      | false =>
        cases V2 with
        | false =>
          go_wp2_with (first | (refine pushT ((g, r, l0, n0, i0), t0) H2 (Nat.le_refl _) (by omega) rfl _ _ rfl rfl rfl ?_; intro a4 c4 w4 H4) | (go_at_call 134; refine (k2 _ H1.out.1).mono ?_; rintro e w2 ⟨rfl, b2⟩; have H2 := hide (And.intro (nextB H1.out.1 b2) (H1.out.2.below b2)); obtain ⟨u0, u1, u2, u3, u4, u5⟩ := HC.out w2 H2.out.1; clear b2; dsimp only) | (go_at_call 134; refine (k1 _ HP.out.1).mono ?_; rintro e w1 ⟨rfl, b1⟩; have H1 := hide (And.intro (nextB HP.out.1 b1) (HP.out.2.below b1)); obtain ⟨s0, s1, s2, s3, s4, s5⟩ := HC.out w1 H1.out.1; clear b1; dsimp only))
          go_roundw
          case rel => exact ⟨i + 1, p ++ [((g, r, l0, n0, i0), t0)], a4, c4, by omega, by simp; omega, by go_num, by simp, hide ⟨by rw [HE.out]; unfold thA; rw [HST.out]; simp, H4.out.2.1, by simpa using H4.out.2.2⟩⟩
          case measure => simp [intOf]; omega
        | true =>
          go_wp2_with (first | (go_at_call 134; refine (k2 _ H1.out.1).mono ?_; rintro e w2 ⟨rfl, b2⟩; have H2 := hide (And.intro (nextB H1.out.1 b2) (H1.out.2.below b2)); obtain ⟨u0, u1, u2, u3, u4, u5⟩ := HC.out w2 H2.out.1; clear b2; dsimp only) | (go_at_call 134; refine (k1 _ HP.out.1).mono ?_; rintro e w1 ⟨rfl, b1⟩; have H1 := hide (And.intro (nextB HP.out.1 b1) (HP.out.2.below b1)); obtain ⟨s0, s1, s2, s3, s4, s5⟩ := HC.out w1 H1.out.1; clear b1; dsimp only))
          go_roundw
          case rel => exact ⟨i + 1, p, ao, c, by omega, by omega, by go_num, rfl, hide ⟨by rw [HE.out]; unfold thA; rw [HST.out]; simp, H2.out.1, H2.out.2⟩⟩
          case measure => simp [intOf]; omega
    · obtain rfl : NA = i := by omega
      have d1 : decide (NA < NA) = false := by simp
      have z1 : ¬ (NA : Int) < (NA : Int) := by omega
      have htk : a.take NA = a := by rw [HN.out.1, List.take_length]
      have HP0 := hP
      clear hP
      go_wp2
      go_loopw [7, 9] (fun v7 v8 wr => ∃ (i : Nat) (p : List El) (ao : Option Addr) (c : Nat), i ≤ NB ∧ p.length ≤ NA + i ∧ v8 = .int .i64 i ∧ v7 = .slice ao p.length c ∧ Hid (p = thA base b a ++ thB base a (b.take i) ∧ Below w.heap.size w wr ∧ Oe wr w.heap.size (.slice ao p.length c) p)) (fun _ v8 _ => NB - (intOf v8).toNat)
      case atStart => exact ⟨0, p, ao, c, Nat.zero_le _, by omega, rfl, rfl, hide ⟨by rw [HP0.out.1, htk]; simp [thB], HP0.out.2.1, HP0.out.2.2⟩⟩
      case round =>
        obtain ⟨i, p, ao, c, hi, hpl, rfl, rfl, hP⟩ := hrel
        by_cases hgo : i < NB
        · have z1 : (i : Int) < (NB : Int) := by omega
          have d1 : decide (i < NB) = true := by simpa using hgo
          obtain ⟨x, hx⟩ : ∃ x, b[i]? = some x := ⟨_, List.getElem?_eq_getElem (by rw [← HN.out.2.1]; exact hgo)⟩
          obtain ⟨b0, o0, hao, q0, q1, q2, q3, q4, q5⟩ := HN.out.2.2.2.cells hx
          have hst := filter_step (P := (fun x => !inB x a && !inB x base)) hx
          obtain ⟨V1, hV1⟩ : ∃ V, V = inB x a := ⟨_, rfl⟩
          obtain ⟨V2, hV2⟩ : ∃ V, V = inB x base := ⟨_, rfl⟩
          have k1 := kA x
          have k2 := kO x
          rw [← hV1] at k1
          rw [← hV2] at k2
          try dsimp only at hst
          rw [← hV1, ← hV2] at hst
          subst hao
          obtain ⟨⟨g, r, l0, n0, i0⟩, t0⟩ := x
          dsimp only [ev] at q0 q1 q2 q3 q4 q5 k1 k2
          have HC : Hid (∀ W, Below w.heap.size w W → W.cell? ⟨b0, o0 + i * 6, none⟩ = some (.int .i64 g) ∧ W.cell? ⟨b0, o0 + i * 6 + 1, none⟩ = some (.int .i64 r) ∧ W.cell? ⟨b0, o0 + i * 6 + 2, none⟩ = some (.string l0) ∧ W.cell? ⟨b0, o0 + i * 6 + 3, none⟩ = some (.int .i64 n0) ∧ W.cell? ⟨b0, o0 + i * 6 + 4, none⟩ = some (.int .i64 i0) ∧ W.cell? ⟨b0, o0 + i * 6 + 5, none⟩ = some (.string t0)) := hide (fun W hW => ⟨cell_stays q0 hW, cell_stays q1 hW, cell_stays q2 hW, cell_stays q3 hW, cell_stays q4 hW, cell_stays q5 hW⟩)
          have HST := hide hst
          have HP := hide (And.intro hP.out.2.1 hP.out.2.2)
          have HE := hide hP.out.1
          obtain ⟨r0, r1, r2, r3, r4, r5⟩ := HC.out _ HP.out.1
          clear hx hst hV1 hV2 q0 q1 q2 q3 q4 q5 hP
          cases V1 with
          | true =>
            go_wp2_with (go_at_call 134; refine (k1 _ HP.out.1).mono ?_; rintro e w1 ⟨rfl, b1⟩; have H1 := hide (And.intro (nextB HP.out.1 b1) (HP.out.2.below b1)); obtain ⟨s0, s1, s2, s3, s4, s5⟩ := HC.out w1 H1.out.1; clear b1; dsimp only)
            go_roundw
            case rel => exact ⟨i + 1, p, ao, c, by omega, by omega, by go_num, rfl, hide ⟨by rw [HE.out]; unfold thB; rw [HST.out]; simp, H1.out.1, H1.out.2⟩⟩
            case measure => simp [intOf]; omega
          | false =>
            cases V2 with
            | false =>
              go_wp2_with (first | (refine pushT ((g, r, l0, n0, i0), t0) H2 (Nat.le_refl _) (by omega) rfl _ _ rfl rfl rfl ?_; intro a4 c4 w4 H4) | (go_at_call 134; refine (k2 _ H1.out.1).mono ?_; rintro e w2 ⟨rfl, b2⟩; have H2 := hide (And.intro (nextB H1.out.1 b2) (H1.out.2.below b2)); obtain ⟨u0, u1, u2, u3, u4, u5⟩ := HC.out w2 H2.out.1; clear b2; dsimp only) | (go_at_call 134; refine (k1 _ HP.out.1).mono ?_; rintro e w1 ⟨rfl, b1⟩; have H1 := hide (And.intro (nextB HP.out.1 b1) (HP.out.2.below b1)); obtain ⟨s0, s1, s2, s3, s4, s5⟩ := HC.out w1 H1.out.1; clear b1; dsimp only))
              go_roundw
              case rel => exact ⟨i + 1, p ++ [((g, r, l0, n0, i0), t0)], a4, c4, by omega, by simp; omega, by go_num, by simp, hide ⟨by rw [HE.out]; unfold thB; rw [HST.out]; simp, H4.out.2.1, by simpa using H4.out.2.2⟩⟩
              case measure => simp [intOf]; omega
            | true =>
              go_wp2_with (first | (go_at_call 134; refine (k2 _ H1.out.1).mono ?_; rintro e w2 ⟨rfl, b2⟩; have H2 := hide (And.intro (nextB H1.out.1 b2) (H1.out.2.below b2)); obtain ⟨u0, u1, u2, u3, u4, u5⟩ := HC.out w2 H2.out.1; clear b2; dsimp only) | (go_at_call 134; refine (k1 _ HP.out.1).mono ?_; rintro e w1 ⟨rfl, b1⟩; have H1 := hide (And.intro (nextB HP.out.1 b1) (HP.out.2.below b1)); obtain ⟨s0, s1, s2, s3, s4, s5⟩ := HC.out w1 H1.out.1; clear b1; dsimp only))
              go_roundw
              case rel => exact ⟨i + 1, p, ao, c, by omega, by omega, by go_num, rfl, hide ⟨by rw [HE.out]; unfold thB; rw [HST.out]; simp, H2.out.1, H2.out.2⟩⟩
              case measure => simp [intOf]; omega
        · obtain rfl : NB = i := by omega
          have d1 : decide (NB < NB) = false := by simp
          have z1 : ¬ (NB : Int) < (NB : Int) := by omega
          have htb : b.take NB = b := by rw [HN.out.2.1, List.take_length]
          have hP2 := hP.out.1
          rw [htb] at hP2
          have hs := sorted22 (c := c) p hP.out.2.2.re (by omega) (by rw [hP2]; exact thr_ok HOK.out.1 HOK.out.2)
          rw [show p = thr base a b from hP2] at hs
          have HX := hide (And.intro hP.out.2.1 hP2)
          have hpn : p.length = (thr base a b).length := by rw [hP2]; rfl
          rw [hpn]
          clear hP hP2 htb hpn hpl HP0 htk
          generalize thr base a b = S at *
          go_wp2_with (go_at_call 22; refine hs.mono ?_; rintro e w5 ⟨v, rfl, hO, b5⟩; have H5 := hide (And.intro hO b5); clear hO b5; dsimp only)
          go_ret
          obtain ⟨hO, b5⟩ := H5.out
          obtain ⟨ao9, c9, hv, -⟩ := hO.form
          subst hv
          exact ⟨ao9, c9, rfl, hO.lift HX.out.1.size, HX.out.1.trans (b5.mono HX.out.1.size)⟩
end Go.Proofs.YtkkpdgfllnbigaaGreat.Tg
namespace Go.Proofs.YtkkpdgfllnbigaaGreat.Pm
open Go.RowKit Go.Shelf
set_option linter.unusedSimpArgs false

theorem ins_lessP {x : (ByteArray × ByteArray)} {k : ByteArray} {v : ByteArray} {l : List (ByteArray × ByteArray)} (h : cmpB x.1 k = -1) : ins k v (x :: l) = x :: ins k v l := by
  have hp : pos k (x :: l) = pos k l + 1 := by simp [pos, h]
  have hh : has k (x :: l) = has k l := by unfold has; rw [hp]; simp
  unfold ins
  rw [hp, hh]
  split <;> simp
theorem ins_memP {k : ByteArray} {v : ByteArray} {l : List (ByteArray × ByteArray)} {y : (ByteArray × ByteArray)} (h : y ∈ ins k v l) : y = (k, v) ∨ y ∈ l := by
  unfold ins at h
  rcases List.mem_append.1 h with h | h
  · exact .inr (List.mem_of_mem_take h)
  · rcases List.mem_cons.1 h with h | h
    · exact .inl h
    · exact .inr (List.mem_of_mem_drop h)
theorem srt_insP {l : List (ByteArray × ByteArray)} (h : Srt l) (k : ByteArray) (v : ByteArray) : Srt (ins k v l) := by
  induction l with
  | nil => simp [ins, pos, has, Srt]
  | cons x l ih =>
    obtain ⟨h1, h2⟩ := List.pairwise_cons.1 h
    by_cases hc : cmpB x.1 k = -1
    · rw [ins_lessP hc]
      refine List.Pairwise.cons (fun y hy => ?_) (ih h2)
      rcases ins_memP hy with rfl | hy
      · exact hc
      · exact h1 y hy
    · have hp : pos k (x :: l) = 0 := by simp [pos, hc]
      have hh : has k (x :: l) = decide (x.1 = k) := by unfold has; rw [hp]; rfl
      unfold ins
      rw [hp, hh]
      by_cases he : x.1 = k
      · simp only [he, decide_true, if_true, List.take_zero, List.nil_append, Nat.zero_add, List.drop_succ_cons, List.drop_zero]
        exact List.Pairwise.cons (fun y hy => by have := h1 y hy; rw [he] at this; exact this) h2
      · simp only [he, decide_false, Bool.false_eq_true, if_false, List.take_zero, List.nil_append, List.drop_zero]
        have hk : cmpB k x.1 = -1 := by
          have h3 := ord_B.range x.1 k
          have h4 := ord_B.anti k x.1
          rcases h3 with h3 | h3 | h3
          · exact (hc h3).elim
          · exact (he (ord_B.eq _ _ h3)).elim
          · have := ord_B.anti x.1 k; omega
        refine List.Pairwise.cons (fun y hy => ?_) h
        rcases List.mem_cons.1 hy with rfl | hy
        · exact hk
        · exact ord_B.trans _ _ _ hk (h1 y hy)
theorem mem_ins {l : List (ByteArray × ByteArray)} (h : Srt l) (k v : ByteArray) (x : ByteArray × ByteArray) : x ∈ ins k v l ↔ x = (k, v) ∨ (x ∈ l ∧ x.1 ≠ k) := by
  induction l with
  | nil => simp [ins, pos, has]
  | cons y l ih =>
    obtain ⟨h1, h2⟩ := List.pairwise_cons.1 h
    by_cases hc : cmpB y.1 k = -1
    · rw [ins_lessP hc, List.mem_cons, List.mem_cons, ih h2]
      have hy := cmp_ne hc
      constructor
      · rintro (rfl | rfl | ⟨h3, h4⟩)
        · exact .inr ⟨.inl rfl, hy⟩
        · exact .inl rfl
        · exact .inr ⟨.inr h3, h4⟩
      · rintro (rfl | ⟨rfl | h3, h4⟩)
        · exact .inr (.inl rfl)
        · exact .inl rfl
        · exact .inr (.inr ⟨h3, h4⟩)
    · have hp : pos k (y :: l) = 0 := by simp [pos, hc]
      have hh : has k (y :: l) = decide (y.1 = k) := by unfold has; rw [hp]; rfl
      unfold ins
      rw [hp, hh]
      by_cases he : y.1 = k
      · simp only [he, decide_true, if_true, List.take_zero, List.nil_append, Nat.zero_add, List.drop_succ_cons, List.drop_zero, List.mem_cons]
        constructor
        · rintro (h3 | h3)
          · exact .inl h3
          · exact .inr ⟨.inr h3, fun e => by have := h1 x h3; rw [he, e, ord_B.refl] at this; exact absurd this (by decide)⟩
        · rintro (h3 | ⟨rfl | h3, h4⟩)
          · exact .inl h3
          · exact (h4 he).elim
          · exact .inr h3
      · simp only [he, decide_false, Bool.false_eq_true, if_false, List.take_zero, List.nil_append, List.drop_zero, List.mem_cons]
        have hk : cmpB k y.1 = -1 := by
          rcases cmp_three y.1 k with e | e | e
          · exact (hc e).elim
          · exact (he e).elim
          · exact e
        constructor
        · rintro (h3 | h3)
          · exact .inl h3
          · refine .inr ⟨h3, fun e => ?_⟩
            rcases h3 with rfl | h3
            · exact he e
            · have := ord_B.trans _ _ _ hk (h1 x h3)
              rw [e, ord_B.refl] at this
              exact absurd this (by decide)
        · rintro (h3 | ⟨h3, -⟩)
          · exact .inl h3
          · exact .inr h3
theorem ins_len (k v : ByteArray) (l : List (ByteArray × ByteArray)) : (ins k v l).length ≤ l.length + 1 := by
  unfold ins
  simp only [List.length_append, List.length_take, List.length_cons, List.length_drop]
  have := pos_le k l
  split <;> omega
end Go.Proofs.YtkkpdgfllnbigaaGreat.Pm
namespace Go.Proofs.YtkkpdgfllnbigaaGreat
open Go.RowKit Go.Shelf
/-- The map has just these keys. -/
def KeysOf (t : Pm.T) (l : List Kv) : Prop := ∀ k, (∃ v, (k, v) ∈ t.list) ↔ k ∈ l.map Prod.fst
/-- One Put more. -/
theorem Mg.put {w w' : World} {t t' : Pm.T} {k v : ByteArray} (h : Mg w t) (hp : Pm.Puts w.heap.size k v t t') (hi : Pm.In w' t') (hn : t.n < 400) (hk : k.size ≤ 9223372036854775807) : Mg w' t' := by
  have hl := hp.list h.srt
  refine ⟨hi, ?_, (hp.says h.srt h.bal h.inn.underP).bal, ?_, ?_⟩
  · rw [hl]; exact Pm.srt_insP h.srt k v
  · rw [← Pm.T.n_eq, hl]
    have := Pm.ins_len k v t.list
    rw [Pm.T.n_eq] at this
    omega
  · intro x hx
    rw [hl, Pm.mem_ins h.srt] at hx
    rcases hx with rfl | ⟨hx, -⟩
    · exact hk
    · exact h.key x hx
theorem KeysOf.put {w : World} {t t' : Pm.T} {l : List Kv} {k v : ByteArray} {B : Nat} (h : KeysOf t l) (hm : Mg w t) (hp : Pm.Puts B k v t t') : KeysOf t' (l ++ [(k, v)]) := fun j => by
  rw [hp.list hm.srt, List.map_append, List.mem_append, List.map_singleton, List.mem_singleton, ← h j]
  constructor
  · rintro ⟨u, hu⟩
    rw [Pm.mem_ins hm.srt] at hu
    rcases hu with hu | ⟨hu, -⟩
    · cases hu; exact .inr rfl
    · exact .inl ⟨u, hu⟩
  · rintro (⟨u, hu⟩ | rfl)
    · by_cases e : j = k
      · exact ⟨v, (Pm.mem_ins hm.srt _ _ _).2 (.inl (by rw [e]))⟩
      · exact ⟨u, (Pm.mem_ins hm.srt _ _ _).2 (.inr ⟨hu, e⟩)⟩
    · exact ⟨v, (Pm.mem_ins hm.srt _ _ _).2 (.inl rfl)⟩
end Go.Proofs.YtkkpdgfllnbigaaGreat
