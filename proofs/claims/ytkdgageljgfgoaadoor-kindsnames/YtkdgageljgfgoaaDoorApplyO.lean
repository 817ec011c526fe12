/-
  kinds: what Apply brings is its own memory (insert, write, push, append).
-/
import Derived.Test.YtkdgageljgfgoaaDoorDocS9
namespace Go.Proofs.YtkdgageljgfgoaaDoor
open Go.RowKit Go.Shelf
set_option linter.unusedSimpArgs false
attribute [local go_sem] Oper.semAt_some

def ChgO (w : World) (L : List El) (e : Ending) (w' : World) : Prop := ∃ a' c' m, e = .returned (.slice a' m c') ∧ m = L.length ∧ Oe w' w.heap.size (.slice a' m c') L ∧ Below w.heap.size w w'
def ValO (w : World) (k n : Int) (L : List El) (e : Ending) (w' : World) : Prop := ∃ a' c' m, e = .returned (.tuple #[vv k n a' m c', .int .i64 0]) ∧ m = L.length ∧ Oe w' w.heap.size (.slice a' m c') L ∧ Below w.heap.size w w'
set_option maxHeartbeats 4000000 in
set_option maxRecDepth 100000 in
theorem changed_own {w : World} {ao : Option Addr} {c : Nat} {l : List El} (d : Int) (x : El) (h : Rv w ao c l) (hl : l.length ≤ 90000) (hd : d = 4 ∨ d = 2 ∨ d = 5 ∨ d = 7) : Calls Tryd.prog 26 #[.slice ao l.length c, .int .i64 d, ev x] w (ChgO w (changeL l d x)) := by
  obtain ⟨N, hN⟩ : ∃ N, N = l.length := ⟨_, rfl⟩
  obtain ⟨⟨g, r, l0, n0, i0⟩, t0⟩ := x
  obtain ⟨w1, hw1⟩ : ∃ w1, w1 = w.alloc (.cells #[.int .i64 g, .int .i64 r, .string l0, .int .i64 n0, .int .i64 i0, .string t0] 58) := ⟨_, rfl⟩
  have b1 : Below w.heap.size w w1 := by rw [hw1]; exact (Below.refl _ w).alloc (Nat.le_refl _) _
  have m0 := heap_alloc_new w (.cells #[.int .i64 g, .int .i64 r, .string l0, .int .i64 n0, .int .i64 i0, .string t0] 58)
  obtain ⟨p0, p1, p2, p3, p4, p5⟩ := new6 w (.int .i64 g) (.int .i64 r) (.string l0) (.int .i64 n0) (.int .i64 i0) (.string t0) 58
  rw [← hw1] at m0 p0 p1 p2 p3 p4 p5
  have hs1 : w1.heap.size = w.heap.size + 1 := by rw [hw1]; simp
  have hcl := cloneE_any (h.below b1) (by omega)
  rw [← hN] at hcl
  rw [hw1] at hcl
  have HC := hide (And.intro hw1 (And.intro b1 (And.intro m0 (And.intro hs1 (And.intro hN hl)))))
  have HP := hide (And.intro p0 (And.intro p1 (And.intro p2 (And.intro p3 (And.intro p4 p5)))))
  clear b1 m0 p0 p1 p2 p3 p4 p5 hs1 h
  rw [← hN]
  have fin : ∀ {w2 : World} {a2 : Option Addr} {c2 : Nat}, Oe w2 w1.heap.size (.slice a2 N c2) l → Below w1.heap.size w1 w2 → Oe w2 w1.heap.size (.slice a2 l.length c2) l ∧ Below w.heap.size w w2 ∧ w.heap.size ≤ w1.heap.size := fun ho hb => ⟨by rw [← hN]; exact ho, HC.out.2.1.trans (hb.mono HC.out.2.1.size), HC.out.2.1.size⟩
  clear hN hl
  have push : ∀ (w2 : World) (v : Value) (p : List El) (M : Nat), Below w1.heap.size w1 w2 → Oe w2 w1.heap.size v p → p.length ≤ 90000 → M = p.length + 1 → ∀ {ops : Array Oper} {rest : List Oper} {o : Oper} {a : Act} {Q : Exit → Act → World → Prop} (_ : o.guard = none) (s t : Operand) (_ : o.op = .call { callee := .builtin .append, args := #[s, t], argTypes := #[28, 28] })
      (_ : a.eval s = v) (_ : a.eval t = .slice (some ⟨w2.heap.size, 0, none⟩) 1 1)
      (_ : ∀ ao' cap' w', Hid (ChgO w (p ++ [((g, r, l0, n0, i0), t0)]) (.returned (.slice ao' M cap')) w') → wpList Tryd.prog ops Q rest (a.put o.dst (.slice ao' M cap')) w'),
      wpList Tryd.prog ops Q (o :: rest) a (w2.alloc (.cells #[.int .i64 g, .int .i64 r, .string l0, .int .i64 n0, .int .i64 i0, .string t0] 58)) := by
    intro w2 v p M hb2 hO hp hM ops rest o a Q hg s t ho hs ht hk
    have hbA : Below w1.heap.size w1 (w2.alloc (.cells #[.int .i64 g, .int .i64 r, .string l0, .int .i64 n0, .int .i64 i0, .string t0] 58)) := hb2.alloc hb2.size _
    refine wpList_pushE hg s t ho w1.heap.size v p hs (hO.alloc _) w2.heap.size 1 ((g, r, l0, n0, i0), t0) ht (heap_alloc_new w2 _) (by omega) (by simp; have := hb2.size; omega) ?_
    intro ao' cap' w' h1 h2 h3
    rw [← hM] at h1 ⊢
    have hb := below_oe hbA (by simp; have := hb2.size; omega) (hO.alloc _) h2
    exact hk ao' cap' w' (hide ⟨ao', cap', M, rfl, by rw [List.length_append, hM]; rfl, h1.lift HC.out.2.1.size, HC.out.2.1.trans (hb.mono HC.out.2.1.size)⟩)
  by_cases h4 : d = 4
  · subst h4
    rw [show changeL l 4 ((g, r, l0, n0, i0), t0) = [] ++ [((g, r, l0, n0, i0), t0)] from rfl]
    go_enter Tryd.func26, Tryd.ntmps26
    go_wp2_with (first
      | (go_at_call 45; refine hcl.mono ?_; rw [← HC.out.1]; rintro e w2 ⟨a2, c2, rfl, o2, b2⟩; obtain ⟨c0, c1, c2', c3, c4, c5⟩ := HP.out; replace c0 := cell_stays c0 b2; replace c1 := cell_stays c1 b2; replace c2' := cell_stays c2' b2; replace c3 := cell_stays c3 b2; replace c4 := cell_stays c4 b2; replace c5 := cell_stays c5 b2; have H2 := hide (And.intro o2 b2); clear o2 b2 hcl)
      | (refine push _ _ [] 1 H2.out.2 (Oe.nil _ _) (by simp) rfl rfl _ _ rfl rfl rfl ?_; intro a3 c3' w3 H3))
    go_ret
    exact H3.out
  by_cases h257 : d = 2 ∨ d = 5 ∨ d = 7
  · rw [show changeL l d ((g, r, l0, n0, i0), t0) = l ++ [((g, r, l0, n0, i0), t0)] by unfold changeL; rw [if_neg h4, if_pos h257]]
    have e4 : (d == 4) = false := by simpa using h4
    have hpl := fun (w2 : World) (a2 : Option Addr) (c2 : Nat) (H : Hid (Oe w2 w1.heap.size (.slice a2 N c2) l ∧ Below w1.heap.size w1 w2)) => @push w2 (.slice a2 N c2) l (N + 1) H.out.2 H.out.1 HC.out.2.2.2.2.2 (by rw [HC.out.2.2.2.2.1])
    clear push
    rcases h257 with rfl | rfl | rfl
    all_goals
      go_enter Tryd.func26, Tryd.ntmps26
      go_wp2_with (first
        | (go_at_call 45; refine hcl.mono ?_; rw [← HC.out.1]; rintro e w2 ⟨a2, c2, rfl, o2, b2⟩; obtain ⟨c0, c1, c2', c3, c4, c5⟩ := HP.out; replace c0 := cell_stays c0 b2; replace c1 := cell_stays c1 b2; replace c2' := cell_stays c2' b2; replace c3 := cell_stays c3 b2; replace c4 := cell_stays c4 b2; replace c5 := cell_stays c5 b2; have H2 := hide (And.intro o2 b2); clear o2 b2 hcl)
        | (refine hpl _ _ _ H2 rfl _ _ rfl rfl rfl ?_; intro a3 c3' w3 H3))
      go_ret
      exact H3.out
  omega
set_option maxHeartbeats 8000000 in
set_option maxRecDepth 100000 in
theorem apply_own {w : World} (k n : Int) {ao : Option Addr} {c : Nat} {l : List El} (s : St) {pa : Option Addr} {pc : Nat} {p : List ByteArray} (ok : Int) (os : ByteArray) (d on : Int) (ot : ByteArray) (h : Rv w ao c l) (hl : l.length ≤ 90000) (hp : Rp w pa pc p) (hT : Tabs w) (hd : d = 4 ∨ d = 2 ∨ d = 5 ∨ d = 7) (hok : checkE p ok os d on ot = 0) (hv : valB k n l = true) (hst0 : stV s = true) (hbe : behindB s l = true) (hkk : ok = k) :
    Calls Tryd.prog 12 #[vv k n ao l.length c, svT s, opv pa p.length pc ok os d on ot] w (ValO w k (wrap64 (n + on)) (changeL l d (s, ot))) := by
  obtain ⟨N, hN⟩ : ∃ N, N = l.length := ⟨_, rfl⟩
  obtain ⟨PN, hPN⟩ : ∃ N, N = p.length := ⟨_, rfl⟩
  obtain ⟨w1, hw1⟩ : ∃ w1, w1 = (((w.alloc (.cells #[.int .i64 k, .int .i64 n, .slice ao N c] 30)).alloc (.cells #[.int .i64 s.1, .int .i64 s.2.1, .string s.2.2.1, .int .i64 s.2.2.2.1, .int .i64 s.2.2.2.2] 46)).alloc (.cells #[.slice pa PN pc, .int .i64 ok, .string os, .int .i64 d, .int .i64 on, .string ot] 50)).alloc (.cells #[.int .i64 0, .int .i64 0, .slice none 0 0] 30) := ⟨_, rfl⟩
  obtain ⟨m0, m1, m2, m3, b1⟩ := new4 w (.cells #[.int .i64 k, .int .i64 n, .slice ao N c] 30) (.cells #[.int .i64 s.1, .int .i64 s.2.1, .string s.2.2.1, .int .i64 s.2.2.2.1, .int .i64 s.2.2.2.2] 46) (.cells #[.slice pa PN pc, .int .i64 ok, .string os, .int .i64 d, .int .i64 on, .string ot] 50) (.cells #[.int .i64 0, .int .i64 0, .slice none 0 0] 30)
  rw [← hw1] at m0 m1 m2 m3 b1
  have hs1 : w1.heap.size = w.heap.size + 4 := by rw [hw1]; simp
  have h1 := h.below b1
  have k13 := check_any ok os d on ot (hp.below b1) (hT.below b1)
  have k25 := fun (W : World) (hW : Below w1.heap.size w1 W) => value_any k n (h1.below hW) (by omega)
  have k54 := fun W => stamp_any s.1 s.2.1 s.2.2.1 s.2.2.2.1 s.2.2.2.2 W
  have k55 := fun (W : World) (hW : Below w1.heap.size w1 W) => behind_any (c := c) s (h1.re.below hW) (by omega)
  have k56 := fun (W : World) (hW : Below w1.heap.size w1 W) => changed_own d (s, ot) (h1.below hW) hl hd
  have hst : stV s = stampV s.1 s.2.1 s.2.2.1 s.2.2.2.1 s.2.2.2.2 := rfl
  rw [hst] at hst0
  unfold ChgO at k56
  rw [← hPN] at k13
  rw [← hN] at k25 k55 k56
  rw [← hN, ← hPN]
  generalize checkE p ok os d on ot = C at *
  generalize valB k n l = V1 at *
  generalize stampV s.1 s.2.1 s.2.2.1 s.2.2.2.1 s.2.2.2.2 = V2 at *
  generalize behindB s l = V3 at *
  generalize changeL l d (s, ot) = CL at *
  obtain ⟨g, r, l0, n0, i0⟩ := s
  dsimp only at m0 m1 m2 m3 k54 k55 k56 hw1
  obtain ⟨M, hM⟩ : ∃ M, M = CL.length := ⟨_, rfl⟩
  obtain ⟨Bv, hBv⟩ : ∃ B, B = w.heap.size := ⟨_, rfl⟩
  obtain ⟨Bs, hBs⟩ : ∃ B, B = w.heap.size + 1 := ⟨_, rfl⟩
  obtain ⟨Bo, hBo⟩ : ∃ B, B = w.heap.size + 1 + 1 := ⟨_, rfl⟩
  obtain ⟨Br, hBr⟩ : ∃ B, B = w.heap.size + 1 + 1 + 1 := ⟨_, rfl⟩
  rw [← hBv] at m0
  rw [← hBs] at m1
  rw [show w.heap.size + 2 = Bo by omega] at m2
  rw [show w.heap.size + 3 = Br by omega] at m3
  have up : ∀ W, Below w1.heap.size w1 W → (W.cell? ⟨Bv, 0, none⟩ = some (.int .i64 k) ∧ W.cell? ⟨Bv, 1, none⟩ = some (.int .i64 n) ∧ W.cell? ⟨Bv, 2, none⟩ = some (.slice ao N c) ∧ W.cell? ⟨Bs, 0, none⟩ = some (.int .i64 g) ∧ W.cell? ⟨Bs, 1, none⟩ = some (.int .i64 r) ∧ W.cell? ⟨Bs, 2, none⟩ = some (.string l0) ∧ W.cell? ⟨Bs, 3, none⟩ = some (.int .i64 n0) ∧ W.cell? ⟨Bs, 4, none⟩ = some (.int .i64 i0) ∧ W.cell? ⟨Bo, 0, none⟩ = some (.slice pa PN pc) ∧ W.cell? ⟨Bo, 1, none⟩ = some (.int .i64 ok) ∧ W.cell? ⟨Bo, 2, none⟩ = some (.string os) ∧ W.cell? ⟨Bo, 3, none⟩ = some (.int .i64 d) ∧ W.cell? ⟨Bo, 4, none⟩ = some (.int .i64 on) ∧ W.cell? ⟨Bo, 5, none⟩ = some (.string ot)) ∧ W.heap[Br]? = some (.cells #[.int .i64 0, .int .i64 0, .slice none 0 0] 30 (0, 0)) := fun W hW => by
    have q0 := (hW.block _ (Array.getElem?_eq_some_iff.1 m0).1).trans m0
    have q1 := (hW.block _ (Array.getElem?_eq_some_iff.1 m1).1).trans m1
    have q2 := (hW.block _ (Array.getElem?_eq_some_iff.1 m2).1).trans m2
    exact ⟨⟨(cell_of_row _ _ 0 _ 30 (0, 0) q0).trans rfl, (cell_of_row _ _ 1 _ 30 (0, 0) q0).trans rfl, (cell_of_row _ _ 2 _ 30 (0, 0) q0).trans rfl, (cell_of_row _ _ 0 _ 46 (0, 0) q1).trans rfl, (cell_of_row _ _ 1 _ 46 (0, 0) q1).trans rfl, (cell_of_row _ _ 2 _ 46 (0, 0) q1).trans rfl, (cell_of_row _ _ 3 _ 46 (0, 0) q1).trans rfl, (cell_of_row _ _ 4 _ 46 (0, 0) q1).trans rfl, (cell_of_row _ _ 0 _ 50 (0, 0) q2).trans rfl, (cell_of_row _ _ 1 _ 50 (0, 0) q2).trans rfl, (cell_of_row _ _ 2 _ 50 (0, 0) q2).trans rfl, (cell_of_row _ _ 3 _ 50 (0, 0) q2).trans rfl, (cell_of_row _ _ 4 _ 50 (0, 0) q2).trans rfl, (cell_of_row _ _ 5 _ 50 (0, 0) q2).trans rfl⟩, (hW.block _ (Array.getElem?_eq_some_iff.1 m3).1).trans m3⟩
  have HW := hide (And.intro hw1 (And.intro b1 (And.intro hM (And.intro hs1 (And.intro hBv (And.intro hBs (And.intro hBo hBr)))))))
  obtain ⟨⟨x0, x1, x2, x3, x4, x5, x6, x7, x8, x9, x10, x11, x12, x13⟩, xr⟩ := up w1 (Below.refl _ _)
  replace up := hide up
  clear h hp hT hl h1 hst m0 m1 m2 m3 b1 hs1 hw1 hN hPN hM hBv hBs hBo hBr
  have hret : ∀ (W W' : World), Below w1.heap.size w1 W → Only (fun j => j = Br) W W' → Below w.heap.size w W' := fun W W' hW hO => by
    have hb := HW.out.2.1.trans (hW.mono HW.out.2.1.size)
    exact Below.only hb hO hb.size (fun j e => by have := HW.out; omega)
  replace hret := hide hret
  have hcc0 : C = 0 := hok
  subst hcc0 hkk
  obtain rfl : V1 = true := hv
  obtain rfl : V2 = true := hst0
  obtain rfl : V3 = true := hbe
  clear hok hd
  go_enter Tryd.func12, Tryd.ntmps12
  go_upto_region 1 with fail
  have e1 := HW.out.1
  obtain ⟨-, -, -, -, eBv, eBs, eBo, eBr⟩ := HW.out
  rw [← e1, ← eBr, ← eBo, ← eBs, ← eBv]
  clear e1 eBv eBs eBo eBr
  go_upto_region 11 with (first
    | (go_at_call 21; refine k13.mono ?_; rintro e w2 ⟨rfl, b2⟩; clear x0 x1 x2 x3 x4 x5 x6 x7 x8 x9 x10 x11 x12 x13 xr; obtain ⟨⟨x0, x1, x2, x3, x4, x5, x6, x7, x8, x9, x10, x11, x12, x13⟩, xr⟩ := up.out w2 b2; have H2 := hide b2; clear b2)
    | (go_at_call 23; refine (k25 _ H2.out).mono ?_; rintro e w3 ⟨rfl, b3⟩; clear x0 x1 x2 x3 x4 x5 x6 x7 x8 x9 x10 x11 x12 x13 xr; obtain ⟨⟨x0, x1, x2, x3, x4, x5, x6, x7, x8, x9, x10, x11, x12, x13⟩, xr⟩ := up.out w3 (H2.out.trans (b3.mono H2.out.size)); have H3 := hide (H2.out.trans (b3.mono H2.out.size)); clear b3)
    | (go_at_call 24; refine (k54 _).mono ?_; rintro e w4 ⟨rfl, b4⟩; clear x0 x1 x2 x3 x4 x5 x6 x7 x8 x9 x10 x11 x12 x13 xr; obtain ⟨⟨x0, x1, x2, x3, x4, x5, x6, x7, x8, x9, x10, x11, x12, x13⟩, xr⟩ := up.out w4 (H3.out.trans (b4.mono H3.out.size)); have H4 := hide (H3.out.trans (b4.mono H3.out.size)); clear b4)
    | (go_at_call 25; refine (k55 _ H4.out).mono ?_; rintro e w5 ⟨rfl, b5⟩; clear x0 x1 x2 x3 x4 x5 x6 x7 x8 x9 x10 x11 x12 x13 xr; obtain ⟨⟨x0, x1, x2, x3, x4, x5, x6, x7, x8, x9, x10, x11, x12, x13⟩, xr⟩ := up.out w5 (H4.out.trans (b5.mono H4.out.size)); have H5 := hide (H4.out.trans (b5.mono H4.out.size)); clear b5))
  obtain ⟨w6, hw6⟩ : ∃ w6, w6 = w5.alloc (.cells #[.int .i64 g, .int .i64 r, .string l0, .int .i64 n0, .int .i64 i0, .string ot] 58) := ⟨_, rfl⟩
  have b6 : Below w5.heap.size w5 w6 := by rw [hw6]; exact (Below.refl _ w5).alloc (Nat.le_refl _) _
  obtain ⟨c0, c1, c2, c3, c4, c5⟩ := new6 w5 (.int .i64 g) (.int .i64 r) (.string l0) (.int .i64 n0) (.int .i64 i0) (.string ot) 58
  rw [← hw6] at c0 c1 c2 c3 c4 c5 ⊢
  obtain ⟨X, hX⟩ : ∃ X, X = w5.heap.size := ⟨_, rfl⟩
  rw [← hX] at c0 c1 c2 c3 c4 c5 ⊢
  have b16 := H5.out.trans (b6.mono H5.out.size)
  have H6 := hide b16
  clear x0 x1 x2 x3 x4 x5 x6 x7 x8 x9 x10 x11 x12 x13 xr
  obtain ⟨⟨x0, x1, x2, x3, x4, x5, x6, x7, x8, x9, x10, x11, x12, x13⟩, xr⟩ := up.out w6 b16
  have hS : w6.cell? ⟨Bv, 0, none⟩ = some (.int .i64 ok) ∧ w6.cell? ⟨Bv, 1, none⟩ = some (.int .i64 n) ∧ w6.cell? ⟨Bv, 2, none⟩ = some (.slice ao N c) ∧ w6.cell? ⟨Bo, 3, none⟩ = some (.int .i64 d) ∧ w6.cell? ⟨Bo, 4, none⟩ = some (.int .i64 on) ∧ w6.cell? ⟨X, 0, none⟩ = some (.int .i64 g) ∧ w6.cell? ⟨X, 1, none⟩ = some (.int .i64 r) ∧ w6.cell? ⟨X, 2, none⟩ = some (.string l0) ∧ w6.cell? ⟨X, 3, none⟩ = some (.int .i64 n0) ∧ w6.cell? ⟨X, 4, none⟩ = some (.int .i64 i0) ∧ w6.cell? ⟨X, 5, none⟩ = some (.string ot) ∧ Hid (Below w1.heap.size w1 w6 ∨ Below w.heap.size w w6) := ⟨x0, x1, x2, x11, x12, c0, c1, c2, c3, c4, c5, hide (.inl b16)⟩
  have hXl : X < w6.heap.size := World.block_lt_of_cell? _ _ c0
  have HX := hide (And.intro hXl (And.intro hX (H5.out.size)))
  clear c0 c1 c2 c3 c4 c5 hw6 hX hXl b6 b16 x0 x1 x2 x3 x4 x5 x6 x7 x8 x9 x10 x11 x12 x13 xr k13 k25 k54 k55
  have qd : w6.drew.cell? ⟨Bv, 0, none⟩ = some (.int .i64 ok) ∧ w6.drew.cell? ⟨Bv, 1, none⟩ = some (.int .i64 n) ∧ w6.drew.cell? ⟨Bv, 2, none⟩ = some (.slice ao N c) ∧ w6.drew.cell? ⟨Bo, 3, none⟩ = some (.int .i64 d) ∧ w6.drew.cell? ⟨Bo, 4, none⟩ = some (.int .i64 on) ∧ w6.drew.cell? ⟨X, 0, none⟩ = some (.int .i64 g) ∧ w6.drew.cell? ⟨X, 1, none⟩ = some (.int .i64 r) ∧ w6.drew.cell? ⟨X, 2, none⟩ = some (.string l0) ∧ w6.drew.cell? ⟨X, 3, none⟩ = some (.int .i64 n0) ∧ w6.drew.cell? ⟨X, 4, none⟩ = some (.int .i64 i0) ∧ w6.drew.cell? ⟨X, 5, none⟩ = some (.string ot) ∧ Hid (Below w1.heap.size w1 w6.drew ∨ Below w.heap.size w w6.drew) := ⟨hS.1, hS.2.1, hS.2.2.1, hS.2.2.2.1, hS.2.2.2.2.1, hS.2.2.2.2.2.1, hS.2.2.2.2.2.2.1, hS.2.2.2.2.2.2.2.1, hS.2.2.2.2.2.2.2.2.1, hS.2.2.2.2.2.2.2.2.2.1, hS.2.2.2.2.2.2.2.2.2.2.1, hide (.inl (H6.out.trans ((drew_below w6).mono H6.out.size)))⟩
  have Hd := hide (H6.out.trans ((drew_below w6).mono H6.out.size))
  have wz : IntKind.i64.wrap (n + on) = wrap64 (n + on) := by rw [IntKind.wrap_i64, wrap64]
  obtain ⟨NN, hNN⟩ : ∃ z, z = wrap64 (n + on) := ⟨_, rfl⟩
  rw [← hNN] at wz
  have wz' : wrap64 (n + on) = NN := hNN.symm
  have HNN := hide hNN
  clear hNN
  refine wp_region_held_drew (S := (fun w' => w'.cell? ⟨Bv, 0, none⟩ = some (.int .i64 ok) ∧ w'.cell? ⟨Bv, 1, none⟩ = some (.int .i64 n) ∧ w'.cell? ⟨Bv, 2, none⟩ = some (.slice ao N c) ∧ w'.cell? ⟨Bo, 3, none⟩ = some (.int .i64 d) ∧ w'.cell? ⟨Bo, 4, none⟩ = some (.int .i64 on) ∧ w'.cell? ⟨X, 0, none⟩ = some (.int .i64 g) ∧ w'.cell? ⟨X, 1, none⟩ = some (.int .i64 r) ∧ w'.cell? ⟨X, 2, none⟩ = some (.string l0) ∧ w'.cell? ⟨X, 3, none⟩ = some (.int .i64 n0) ∧ w'.cell? ⟨X, 4, none⟩ = some (.int .i64 i0) ∧ w'.cell? ⟨X, 5, none⟩ = some (.string ot) ∧ Hid (Below w1.heap.size w1 w' ∨ Below w.heap.size w w'))) (by kernel_rfl) qd (fun hHeld => ?_)
  try dsimp only at hHeld
  refine take_op (i := 0) (d := 40) (OP := Op.fieldAddr 30 (Operand.tmp 3) 0) (T := 0) (v := ?vzz15) rfl rfl rfl rfl (by kernel_rfl) (by kernel_rfl) (by kernel_rfl) (fun _ _ _ h => h) (by rfl) ?hzz15 hHeld ?rzz15
  case hzz15 => (intro w' hSw; (try dsimp only at hSw); go_simp <;> with_reducible rfl)
  try simp only [Act.put, List.setIfInBounds_toArray, List.set_cons_zero, List.set_cons_succ]
  refine take_op (i := 1) (d := 41) (OP := Op.load 25 (Operand.tmp 40)) (T := 25) (v := ?vzz16) rfl rfl rfl rfl (by kernel_rfl) (by kernel_rfl) (by kernel_rfl) (fun _ _ _ h => h) (by rfl) ?hzz16 hHeld ?rzz16
  case hzz16 => (intro w' hSw; (try dsimp only at hSw); go_simp <;> with_reducible rfl)
  try simp only [Act.put, List.setIfInBounds_toArray, List.set_cons_zero, List.set_cons_succ]
  refine take_op (i := 2) (d := 42) (OP := Op.fieldAddr 30 (Operand.tmp 3) 1) (T := 0) (v := ?vzz17) rfl rfl rfl rfl (by kernel_rfl) (by kernel_rfl) (by kernel_rfl) (fun _ _ _ h => h) (by rfl) ?hzz17 hHeld ?rzz17
  case hzz17 => (intro w' hSw; (try dsimp only at hSw); go_simp <;> with_reducible rfl)
  try simp only [Act.put, List.setIfInBounds_toArray, List.set_cons_zero, List.set_cons_succ]
  refine take_op (i := 3) (d := 43) (OP := Op.load 2 (Operand.tmp 42)) (T := 2) (v := ?vzz18) rfl rfl rfl rfl (by kernel_rfl) (by kernel_rfl) (by kernel_rfl) (fun _ _ _ h => h) (by rfl) ?hzz18 hHeld ?rzz18
  case hzz18 => (intro w' hSw; (try dsimp only at hSw); go_simp <;> with_reducible rfl)
  try simp only [Act.put, List.setIfInBounds_toArray, List.set_cons_zero, List.set_cons_succ]
  refine take_op (i := 4) (d := 44) (OP := Op.fieldAddr 50 (Operand.tmp 5) 4) (T := 0) (v := ?vzz19) rfl rfl rfl rfl (by kernel_rfl) (by kernel_rfl) (by kernel_rfl) (fun _ _ _ h => h) (by rfl) ?hzz19 hHeld ?rzz19
  case hzz19 => (intro w' hSw; (try dsimp only at hSw); go_simp <;> with_reducible rfl)
  try simp only [Act.put, List.setIfInBounds_toArray, List.set_cons_zero, List.set_cons_succ]
  refine take_op (i := 5) (d := 45) (OP := Op.load 2 (Operand.tmp 44)) (T := 2) (v := ?vzz20) rfl rfl rfl rfl (by kernel_rfl) (by kernel_rfl) (by kernel_rfl) (fun _ _ _ h => h) (by rfl) ?hzz20 hHeld ?rzz20
  case hzz20 => (intro w' hSw; (try dsimp only at hSw); go_simp <;> with_reducible rfl)
  try simp only [Act.put, List.setIfInBounds_toArray, List.set_cons_zero, List.set_cons_succ]
  refine take_op (i := 6) (d := 46) (OP := Op.binOp BinOp.add 2 (Operand.tmp 43) (Operand.tmp 45) 2) (T := 2) (v := ?vzz21) rfl rfl rfl rfl (by kernel_rfl) (by kernel_rfl) (by kernel_rfl) (fun _ _ _ h => h) (by rfl) ?hzz21 hHeld ?rzz21
  case hzz21 => (intro w' hSw; (try dsimp only at hSw); go_simp <;> with_reducible rfl)
  try simp only [Act.put, List.setIfInBounds_toArray, List.set_cons_zero, List.set_cons_succ]
  refine take_op (i := 7) (d := 47) (OP := Op.fieldAddr 30 (Operand.tmp 3) 2) (T := 0) (v := ?vzz22) rfl rfl rfl rfl (by kernel_rfl) (by kernel_rfl) (by kernel_rfl) (fun _ _ _ h => h) (by rfl) ?hzz22 hHeld ?rzz22
  case hzz22 => (intro w' hSw; (try dsimp only at hSw); go_simp <;> with_reducible rfl)
  try simp only [Act.put, List.setIfInBounds_toArray, List.set_cons_zero, List.set_cons_succ]
  refine take_op (i := 8) (d := 48) (OP := Op.load 28 (Operand.tmp 47)) (T := 28) (v := ?vzz23) rfl rfl rfl rfl (by kernel_rfl) (by kernel_rfl) (by kernel_rfl) (fun _ _ _ h => h) (by rfl) ?hzz23 hHeld ?rzz23
  case hzz23 => (intro w' hSw; (try dsimp only at hSw); go_simp <;> with_reducible rfl)
  try simp only [Act.put, List.setIfInBounds_toArray, List.set_cons_zero, List.set_cons_succ]
  refine take_op (i := 9) (d := 49) (OP := Op.fieldAddr 50 (Operand.tmp 5) 3) (T := 0) (v := ?vzz24) rfl rfl rfl rfl (by kernel_rfl) (by kernel_rfl) (by kernel_rfl) (fun _ _ _ h => h) (by rfl) ?hzz24 hHeld ?rzz24
  case hzz24 => (intro w' hSw; (try dsimp only at hSw); go_simp <;> with_reducible rfl)
  try simp only [Act.put, List.setIfInBounds_toArray, List.set_cons_zero, List.set_cons_succ]
  refine take_op (i := 10) (d := 50) (OP := Op.load 48 (Operand.tmp 49)) (T := 48) (v := ?vzz25) rfl rfl rfl rfl (by kernel_rfl) (by kernel_rfl) (by kernel_rfl) (fun _ _ _ h => h) (by rfl) ?hzz25 hHeld ?rzz25
  case hzz25 => (intro w' hSw; (try dsimp only at hSw); go_simp <;> with_reducible rfl)
  try simp only [Act.put, List.setIfInBounds_toArray, List.set_cons_zero, List.set_cons_succ]
  refine take_op (i := 11) (d := 51) (OP := Op.load 58 (Operand.tmp 9)) (T := 58) (v := ?vzz26) rfl rfl rfl rfl (by kernel_rfl) (by kernel_rfl) (by kernel_rfl) (fun _ _ _ h => h) (by rfl) ?hzz26 hHeld ?rzz26
  case hzz26 => (intro w' hSw; (try dsimp only at hSw); go_simp <;> with_reducible rfl)
  try simp only [Act.put, List.setIfInBounds_toArray, List.set_cons_zero, List.set_cons_succ]
  refine call_op (i := 12) (d := 52) (OP := Op.call { callee := Callee.value (Operand.func 26), args := #[Operand.tmp 48, Operand.tmp 50, Operand.tmp 51], argTypes := #[28, 48, 58] }) (T := 28) (f := 26) (args := #[.slice ao N c, .int .i64 d, .agg #[.int .i64 g, .int .i64 r, .string l0, .int .i64 n0, .int .i64 i0, .string ot]]) rfl rfl rfl rfl (by kernel_rfl) (by rfl) (by go_simp) ?_
  refine (k56 _ Hd.out).mono ?_
  rintro e z ⟨a7, c7, M7, rfl, hm7, hnv, bz⟩
  have Hz := hide (Hd.out.trans (bz.mono Hd.out.size))
  have qz : z.cell? ⟨Bv, 0, none⟩ = some (.int .i64 ok) ∧ z.cell? ⟨Bv, 1, none⟩ = some (.int .i64 n) ∧ z.cell? ⟨Bv, 2, none⟩ = some (.slice ao N c) ∧ z.cell? ⟨Bo, 3, none⟩ = some (.int .i64 d) ∧ z.cell? ⟨Bo, 4, none⟩ = some (.int .i64 on) ∧ z.cell? ⟨X, 0, none⟩ = some (.int .i64 g) ∧ z.cell? ⟨X, 1, none⟩ = some (.int .i64 r) ∧ z.cell? ⟨X, 2, none⟩ = some (.string l0) ∧ z.cell? ⟨X, 3, none⟩ = some (.int .i64 n0) ∧ z.cell? ⟨X, 4, none⟩ = some (.int .i64 i0) ∧ z.cell? ⟨X, 5, none⟩ = some (.string ot) ∧ Hid (Below w1.heap.size w1 z ∨ Below w.heap.size w z) := ⟨cell_stays hHeld.1 bz, cell_stays hHeld.2.1 bz, cell_stays hHeld.2.2.1 bz, cell_stays hHeld.2.2.2.1 bz, cell_stays hHeld.2.2.2.2.1 bz, cell_stays hHeld.2.2.2.2.2.1 bz, cell_stays hHeld.2.2.2.2.2.2.1 bz, cell_stays hHeld.2.2.2.2.2.2.2.1 bz, cell_stays hHeld.2.2.2.2.2.2.2.2.1 bz, cell_stays hHeld.2.2.2.2.2.2.2.2.2.1 bz, cell_stays hHeld.2.2.2.2.2.2.2.2.2.2.1 bz, hide (.inl Hz.out)⟩
  refine ⟨_, rfl, qz, ?_⟩
  replace hHeld := qz
  have HNV := hide (And.intro hm7 hnv)
  clear hnv bz qz hm7
  try simp only [Act.put, List.setIfInBounds_toArray, List.set_cons_zero, List.set_cons_succ]
  refine take_op (i := 13) (d := 53) (OP := Op.build 30 #[(0, Operand.tmp 41), (1, Operand.tmp 46), (2, Operand.tmp 52)]) (T := 30) (v := ?vzz27) rfl rfl rfl rfl (by kernel_rfl) (by kernel_rfl) (by kernel_rfl) (fun _ _ _ h => h) (by rfl) ?hzz27 hHeld ?rzz27
  case hzz27 => (intro w' hSw; (try dsimp only at hSw); go_simp <;> with_reducible rfl)
  try simp only [Act.put, List.setIfInBounds_toArray, List.set_cons_zero, List.set_cons_succ]
  have hrow : z.heap[Br]? = some (.cells #[.int .i64 0, .int .i64 0, .slice none 0 0] 30 (0, 0)) := (up.out z Hz.out).2
  obtain ⟨s1, s2, s3⟩ := rowV hrow (.int .i64 ok) (.int .i64 NN) (.slice a7 M7 c7)
  obtain ⟨y, hy⟩ : ∃ y, y = z.setCells Br 0 [.int .i64 ok, .int .i64 NN, .slice a7 M7 c7] := ⟨_, rfl⟩
  rw [← hy] at s1 s2
  have hyb := hret.out _ _ Hz.out s2
  have qy : y.cell? ⟨Bv, 0, none⟩ = some (.int .i64 ok) ∧ y.cell? ⟨Bv, 1, none⟩ = some (.int .i64 n) ∧ y.cell? ⟨Bv, 2, none⟩ = some (.slice ao N c) ∧ y.cell? ⟨Bo, 3, none⟩ = some (.int .i64 d) ∧ y.cell? ⟨Bo, 4, none⟩ = some (.int .i64 on) ∧ y.cell? ⟨X, 0, none⟩ = some (.int .i64 g) ∧ y.cell? ⟨X, 1, none⟩ = some (.int .i64 r) ∧ y.cell? ⟨X, 2, none⟩ = some (.string l0) ∧ y.cell? ⟨X, 3, none⟩ = some (.int .i64 n0) ∧ y.cell? ⟨X, 4, none⟩ = some (.int .i64 i0) ∧ y.cell? ⟨X, 5, none⟩ = some (.string ot) ∧ Hid (Below w1.heap.size w1 y ∨ Below w.heap.size w y) := ⟨s2.cell hHeld.1 (by have := HW.out; have := HX.out; simp only; omega), s2.cell hHeld.2.1 (by have := HW.out; have := HX.out; simp only; omega), s2.cell hHeld.2.2.1 (by have := HW.out; have := HX.out; simp only; omega), s2.cell hHeld.2.2.2.1 (by have := HW.out; have := HX.out; simp only; omega), s2.cell hHeld.2.2.2.2.1 (by have := HW.out; have := HX.out; simp only; omega), s2.cell hHeld.2.2.2.2.2.1 (by have := HW.out; have := HX.out; simp only; omega), s2.cell hHeld.2.2.2.2.2.2.1 (by have := HW.out; have := HX.out; simp only; omega), s2.cell hHeld.2.2.2.2.2.2.2.1 (by have := HW.out; have := HX.out; simp only; omega), s2.cell hHeld.2.2.2.2.2.2.2.2.1 (by have := HW.out; have := HX.out; simp only; omega), s2.cell hHeld.2.2.2.2.2.2.2.2.2.1 (by have := HW.out; have := HX.out; simp only; omega), s2.cell hHeld.2.2.2.2.2.2.2.2.2.2.1 (by have := HW.out; have := HX.out; simp only; omega), hide (.inr hyb)⟩
  refine skip_op (i := 14) (OP := Op.store 30 (Operand.tmp 6) (Operand.tmp 53)) (T := 0) (w' := y) rfl rfl rfl rfl (by kernel_rfl) (by rfl) (by rw [hy]; exact exec_storeV rfl rfl hrow) ⟨qy, ?_⟩
  replace hHeld := qy
  try simp only [Act.put, List.setIfInBounds_toArray, List.set_cons_zero, List.set_cons_succ]
  refine take_op (i := 15) (d := 7) (OP := Op.assign (Operand.const (Value.int IntKind.i64 0))) (T := 31) (v := ?vzz28) rfl rfl rfl rfl (by kernel_rfl) (by kernel_rfl) (by kernel_rfl) (fun _ _ _ h => h) (by rfl) ?hzz28 hHeld ?rzz28
  case hzz28 => (intro w' hSw; (try dsimp only at hSw); go_simp <;> with_reducible rfl)
  try simp only [Act.put, List.setIfInBounds_toArray, List.set_cons_zero, List.set_cons_succ]
  refine wpAnyH_done (by kernel_rfl) ?_ _
  have HY := hide (And.intro s1 (And.intro s2 hyb))
  clear s1 s2 s3 hyb hHeld qy qd hS hrow hy
  go_wp2
  refine ret_row_tmp Br [.int .i64 ok, .int .i64 NN, .slice a7 M7 c7] rfl rfl rfl Tryd.underlying30 rfl Tryd.info30 HY.out.1 rfl ?_
  refine ⟨a7, c7, M7, by rw [← HNN.out]; rfl, HNV.out.1, ?_, HY.out.2.2⟩
  have h6s : w1.heap.size ≤ w6.drew.heap.size := Hd.out.size
  refine (HNV.out.2.only HY.out.2.1 (fun k hk => ?_)).lift (by have := HW.out; omega)
  have := (World.ownsRow.lt HNV.out.2 k hk).1
  have := HW.out
  omega
end Go.Proofs.YtkdgageljgfgoaaDoor
