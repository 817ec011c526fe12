/-
  kinds: Apply 23.
-/
import Derived.Test.YtkdgageljgfgoaaDoorCheck
namespace Go.Proofs.YtkdgageljgfgoaaDoor
open Go.RowKit Go.Shelf
set_option linter.unusedSimpArgs false
attribute [local go_sem] Oper.semAt_some

theorem new4 (w : World) (o1 o2 o3 o4 : Obj) : ((((w.alloc o1).alloc o2).alloc o3).alloc o4).heap[w.heap.size]? = some o1 ∧ ((((w.alloc o1).alloc o2).alloc o3).alloc o4).heap[w.heap.size + 1]? = some o2 ∧ ((((w.alloc o1).alloc o2).alloc o3).alloc o4).heap[w.heap.size + 2]? = some o3 ∧ ((((w.alloc o1).alloc o2).alloc o3).alloc o4).heap[w.heap.size + 3]? = some o4 ∧ Below w.heap.size w ((((w.alloc o1).alloc o2).alloc o3).alloc o4) := by
  obtain ⟨a, b, c, d⟩ := new3 w o1 o2 o3
  have h4 := heap_alloc_new (((w.alloc o1).alloc o2).alloc o3) o4
  have hs : (((w.alloc o1).alloc o2).alloc o3).heap.size = w.heap.size + 3 := by simp
  have hb : Below (((w.alloc o1).alloc o2).alloc o3).heap.size (((w.alloc o1).alloc o2).alloc o3) ((((w.alloc o1).alloc o2).alloc o3).alloc o4) := (Below.refl _ _).alloc (Nat.le_refl _) _
  rw [hs] at h4
  exact ⟨(hb.block _ (by omega)).trans a, (hb.block _ (by omega)).trans b, (hb.block _ (by omega)).trans c, h4, d.trans (hb.mono d.size)⟩
theorem info46c : (Tryd.prog.info? 30).map (·.size) = some 3 := by kernel_rfl
theorem rowV {w : World} {b : Nat} {x0 x1 x2 : Value} (hrow : w.heap[b]? = some (.cells #[x0, x1, x2] 30 (0, 0))) (y0 y1 y2 : Value) : (w.setCells b 0 [y0, y1, y2]).heap[b]? = some (.cells #[y0, y1, y2] 30 (0, 0)) ∧ Only (fun j => j = b) w (w.setCells b 0 [y0, y1, y2]) ∧ w.there b 0 3 := by
  refine ⟨?_, setCells_only b _ _ _, fun j hj => ?_⟩
  · simp only [World.setCells]
    rw [heap_setCell_same _ _ _ _ 30 _ (heap_setCell_same _ _ _ _ 30 _ (heap_setCell_same _ _ _ _ 30 _ hrow))]
    rfl
  · have : j = 0 ∨ j = 1 ∨ j = 2 := by omega
    rcases this with rfl | rfl | rfl <;> exact ⟨by rw [cell_of_row _ _ _ _ 30 (0, 0) hrow]; rfl, frozen_of_row _ _ _ _ 30 hrow⟩
theorem wpList_storeV {ops : Array Oper} {rest : List Oper} {op : Oper} {a : Act} {w : World} {Q : Exit → Act → World → Prop} (hgd : op.guard = none) (hdn : op.dst = none) (x y : Operand) (ho : op.op = .store 30 x y) (b : Nat) (k n : Int) (ao : Option Addr) (m c : Nat) {x0 x1 x2 : Value} (hx : a.eval x = .pointer (some ⟨b, 0, none⟩)) (hy : a.eval y = vv k n ao m c) (hrow : w.heap[b]? = some (.cells #[x0, x1, x2] 30 (0, 0)))
    (h : ∀ w', Hid (w'.heap[b]? = some (.cells #[.int .i64 k, .int .i64 n, .slice ao m c] 30 (0, 0)) ∧ Only (fun j => j = b) w w') → wpList Tryd.prog ops Q rest a w') : wpList Tryd.prog ops Q (op :: rest) a w := by
  obtain ⟨h1, h2, h3⟩ := rowV hrow (.int .i64 k) (.int .i64 n) (.slice ao m c)
  refine wpList_store_mid hgd 30 x y ho b 0 #[.int .i64 k, .int .i64 n, .slice ao m c] hx hy h3 (by rw [info46c]; rfl) (all_oneCell_toArray (cs := [.int .i64 k, .int .i64 n, .slice ao m c]) (fun v hv => by simp at hv; rcases hv with rfl | rfl | rfl <;> rfl)) ?_
  rw [hdn]
  exact h _ (hide ⟨h1, h2⟩)
theorem exec_storeV {ev : Operand → Value} {x y : Operand} {T : TypeId} {w : World} {b : Nat} {k n : Int} {ao : Option Addr} {m c : Nat} {x0 x1 x2 : Value} (hx : ev x = .pointer (some ⟨b, 0, none⟩)) (hy : ev y = vv k n ao m c) (hrow : w.heap[b]? = some (.cells #[x0, x1, x2] 30 (0, 0))) :
    (execOp ev { dst := none, op := .store 30 x y, type := T, pos := "", after := #[], guard := none }).run Tryd.prog w = .ok .skip (w.setCells b 0 [.int .i64 k, .int .i64 n, .slice ao m c]) := by
  obtain ⟨h1, h2, h3⟩ := rowV hrow (.int .i64 k) (.int .i64 n) (.slice ao m c)
  unfold execOp
  simp only [hx, hy]
  rw [Sem.run_bind, run_storeAt_mid w b 0 30 #[.int .i64 k, .int .i64 n, .slice ao m c] h3 (by rw [info46c]; rfl) (all_oneCell_toArray (cs := [.int .i64 k, .int .i64 n, .slice ao m c]) (fun v hv => by simp at hv; rcases hv with rfl | rfl | rfl <;> rfl))]
  rfl

/-- What an operation makes of a value: kind, number, elements, the error. -/
def applyV (k n : Int) (l : List El) (s : St) (p : List ByteArray) (ok : Int) (os : ByteArray) (d on : Int) (ot : ByteArray) : Int × Int × List El × Int :=
  if checkE p ok os d on ot = 2 ∨ valB k n l = false ∨ stV s = false ∨ behindB s l = false then (0, 0, [], 2)
  else if checkE p ok os d on ot = 7 ∨ ok ≠ k then (0, 0, [], 7)
  else (k, wrap64 (n + on), changeL l d (s, ot), 0)
/-- A value and an error that are handed back. -/
def ValE (w : World) (R : Int × Int × List El × Int) (e : Ending) (w' : World) : Prop := ∃ a' c', e = .returned (.tuple #[vv R.1 R.2.1 a' R.2.2.1.length c', .int .i64 R.2.2.2]) ∧ Nv w' w.heap.size a' c' R.2.2.1 ∧ Below w.heap.size w w'
theorem ValE.bad {w w' : World} (x : Int) (hb : Below w.heap.size w w') : ValE w (0, 0, [], x) (.returned (.tuple #[vv 0 0 none 0 0, .int .i64 x])) w' := ⟨none, 0, rfl, ⟨Rv.none _, by simp⟩, hb⟩
theorem checkE_cases (p : List ByteArray) (k : Int) (s : ByteArray) (d n : Int) (t : ByteArray) : checkE p k s d n t = 0 ∨ checkE p k s d n t = 2 ∨ checkE p k s d n t = 7 := by
  unfold checkE; split
  · split
    · exact .inl rfl
    · exact .inr (.inr rfl)
  · exact .inr (.inl rfl)

set_option maxHeartbeats 8000000 in
set_option maxRecDepth 100000 in
theorem apply_any {w : World} (k n : Int) {ao : Option Addr} {c : Nat} {l : List El} (s : St) {pa : Option Addr} {pc : Nat} {p : List ByteArray} (ok : Int) (os : ByteArray) (d on : Int) (ot : ByteArray) (h : Rv w ao c l) (hl : l.length ≤ 90000) (hp : Rp w pa pc p) (hT : Tabs w) :
    Calls Tryd.prog 12 #[vv k n ao l.length c, svT s, opv pa p.length pc ok os d on ot] w (ValE w (applyV k n l s p ok os d on ot)) := by
  obtain ⟨N, hN⟩ : ∃ N, N = l.length := ⟨_, rfl⟩
  obtain ⟨PN, hPN⟩ : ∃ N, N = p.length := ⟨_, rfl⟩
  obtain ⟨w1, hw1⟩ : ∃ w1, w1 = (((w.alloc (.cells #[.int .i64 k, .int .i64 n, .slice ao N c] 30)).alloc (.cells #[.int .i64 s.1, .int .i64 s.2.1, .string s.2.2.1, .int .i64 s.2.2.2.1, .int .i64 s.2.2.2.2] 46)).alloc (.cells #[.slice pa PN pc, .int .i64 ok, .string os, .int .i64 d, .int .i64 on, .string ot] 50)).alloc (.cells #[.int .i64 0, .int .i64 0, .slice none 0 0] 30) := ⟨_, rfl⟩
  obtain ⟨m0, m1, m2, m3, b1⟩ := new4 w (.cells #[.int .i64 k, .int .i64 n, .slice ao N c] 30) (.cells #[.int .i64 s.1, .int .i64 s.2.1, .string s.2.2.1, .int .i64 s.2.2.2.1, .int .i64 s.2.2.2.2] 46) (.cells #[.slice pa PN pc, .int .i64 ok, .string os, .int .i64 d, .int .i64 on, .string ot] 50) (.cells #[.int .i64 0, .int .i64 0, .slice none 0 0] 30)
  rw [← hw1] at m0 m1 m2 m3 b1
  have hs1 : w1.heap.size = w.heap.size + 4 := by rw [hw1]; simp
  have h1 := h.below b1
  have k13 := check_any ok os d on ot (hp.below b1) (hT.below b1)
  have k25 := fun (W : World) (hW : Below w1.heap.size w1 W) => value_any k n (h1.below hW) (by omega)
  have k54 := fun W => stamp_any s.1 s.2.1 s.2.2.1 s.2.2.2.1 s.2.2.2.2 W
  have k55 := fun (W : World) (hW : Below w1.heap.size w1 W) => behind_any (c := c) s (h1.re.below hW) (by omega)
  have k56 := fun (W : World) (hW : Below w1.heap.size w1 W) => changed_any d (s, ot) (h1.below hW) hl
  have hcc := checkE_cases p ok os d on ot
  have hap : applyV k n l s p ok os d on ot = if checkE p ok os d on ot = 2 ∨ valB k n l = false ∨ stV s = false ∨ behindB s l = false then (0, 0, [], 2) else if checkE p ok os d on ot = 7 ∨ ok ≠ k then (0, 0, [], 7) else (k, wrap64 (n + on), changeL l d (s, ot), 0) := rfl
  rw [hap]
  have hst : stV s = stampV s.1 s.2.1 s.2.2.1 s.2.2.2.1 s.2.2.2.2 := rfl
  rw [hst]
  unfold ChgE at k56
  rw [← hPN] at k13
  rw [← hN] at k25 k55 k56
  rw [← hN, ← hPN]
  generalize checkE p ok os d on ot = C at *
  generalize valB k n l = V1 at *
  generalize stampV s.1 s.2.1 s.2.2.1 s.2.2.2.1 s.2.2.2.2 = V2 at *
  generalize behindB s l = V3 at *
  generalize changeL l d (s, ot) = CL at *
  obtain ⟨g, r, l0, n0, i0⟩ := s
  dsimp only at m0 m1 m2 m3 k54 k55 k56 hw1
  obtain ⟨M, hM⟩ : ∃ M, M = CL.length := ⟨_, rfl⟩
  simp only [← hM] at k56
  obtain ⟨Bv, hBv⟩ : ∃ B, B = w.heap.size := ⟨_, rfl⟩
  obtain ⟨Bs, hBs⟩ : ∃ B, B = w.heap.size + 1 := ⟨_, rfl⟩
  obtain ⟨Bo, hBo⟩ : ∃ B, B = w.heap.size + 1 + 1 := ⟨_, rfl⟩
  obtain ⟨Br, hBr⟩ : ∃ B, B = w.heap.size + 1 + 1 + 1 := ⟨_, rfl⟩
  rw [← hBv] at m0
  rw [← hBs] at m1
  rw [show w.heap.size + 2 = Bo by omega] at m2
  rw [show w.heap.size + 3 = Br by omega] at m3
  have up : ∀ W, Below w1.heap.size w1 W → (W.cell? ⟨Bv, 0, none⟩ = some (.int .i64 k) ∧ W.cell? ⟨Bv, 1, none⟩ = some (.int .i64 n) ∧ W.cell? ⟨Bv, 2, none⟩ = some (.slice ao N c) ∧ W.cell? ⟨Bs, 0, none⟩ = some (.int .i64 g) ∧ W.cell? ⟨Bs, 1, none⟩ = some (.int .i64 r) ∧ W.cell? ⟨Bs, 2, none⟩ = some (.string l0) ∧ W.cell? ⟨Bs, 3, none⟩ = some (.int .i64 n0) ∧ W.cell? ⟨Bs, 4, none⟩ = some (.int .i64 i0) ∧ W.cell? ⟨Bo, 0, none⟩ = some (.slice pa PN pc) ∧ W.cell? ⟨Bo, 1, none⟩ = some (.int .i64 ok) ∧ W.cell? ⟨Bo, 2, none⟩ = some (.string os) ∧ W.cell? ⟨Bo, 3, none⟩ = some (.int .i64 d) ∧ W.cell? ⟨Bo, 4, none⟩ = some (.int .i64 on) ∧ W.cell? ⟨Bo, 5, none⟩ = some (.string ot)) ∧ W.heap[Br]? = some (.cells #[.int .i64 0, .int .i64 0, .slice none 0 0] 30 (0, 0)) := fun W hW => by
    have q0 := (hW.block _ (Array.getElem?_eq_some_iff.1 m0).1).trans m0
    have q1 := (hW.block _ (Array.getElem?_eq_some_iff.1 m1).1).trans m1
    have q2 := (hW.block _ (Array.getElem?_eq_some_iff.1 m2).1).trans m2
    exact ⟨⟨(cell_of_row _ _ 0 _ 30 (0, 0) q0).trans rfl, (cell_of_row _ _ 1 _ 30 (0, 0) q0).trans rfl, (cell_of_row _ _ 2 _ 30 (0, 0) q0).trans rfl, (cell_of_row _ _ 0 _ 46 (0, 0) q1).trans rfl, (cell_of_row _ _ 1 _ 46 (0, 0) q1).trans rfl, (cell_of_row _ _ 2 _ 46 (0, 0) q1).trans rfl, (cell_of_row _ _ 3 _ 46 (0, 0) q1).trans rfl, (cell_of_row _ _ 4 _ 46 (0, 0) q1).trans rfl, (cell_of_row _ _ 0 _ 50 (0, 0) q2).trans rfl, (cell_of_row _ _ 1 _ 50 (0, 0) q2).trans rfl, (cell_of_row _ _ 2 _ 50 (0, 0) q2).trans rfl, (cell_of_row _ _ 3 _ 50 (0, 0) q2).trans rfl, (cell_of_row _ _ 4 _ 50 (0, 0) q2).trans rfl, (cell_of_row _ _ 5 _ 50 (0, 0) q2).trans rfl⟩, (hW.block _ (Array.getElem?_eq_some_iff.1 m3).1).trans m3⟩
  have HW := hide (And.intro hw1 (And.intro b1 (And.intro hM (And.intro hs1 (And.intro hBv (And.intro hBs (And.intro hBo hBr)))))))
  obtain ⟨⟨x0, x1, x2, x3, x4, x5, x6, x7, x8, x9, x10, x11, x12, x13⟩, xr⟩ := up w1 (Below.refl _ _)
  replace up := hide up
  clear h hp hT hl h1 hap hst m0 m1 m2 m3 b1 hs1 hw1 hN hPN hM hBv hBs hBo hBr
  have hret : ∀ (W W' : World), Below w1.heap.size w1 W → Only (fun j => j = Br) W W' → Below w.heap.size w W' := fun W W' hW hO => by
    have hb := HW.out.2.1.trans (hW.mono HW.out.2.1.size)
    exact Below.only hb hO hb.size (fun j e => by have := HW.out; omega)
  replace hret := hide hret
  by_cases hC2 : C = 2
  · subst hC2
    rw [if_pos (.inl rfl)]
    go_enter Tryd.func12, Tryd.ntmps12
    go_upto_region 1 with fail
    have e1 := HW.out.1
    obtain ⟨-, -, -, -, eBv, eBs, eBo, eBr⟩ := HW.out
    rw [← e1, ← eBr, ← eBo, ← eBs, ← eBv]
    clear e1 eBv eBs eBo eBr
    go_wp2_with (first
      | (go_at_call 21; refine k13.mono ?_; rintro e w2 ⟨rfl, b2⟩; clear x0 x1 x2 x3 x4 x5 x6 x7 x8 x9 x10 x11 x12 x13 xr; obtain ⟨⟨x0, x1, x2, x3, x4, x5, x6, x7, x8, x9, x10, x11, x12, x13⟩, xr⟩ := up.out w2 b2; have H2 := hide b2; clear b2)
      | (refine wpList_storeV rfl rfl _ _ rfl Br 0 0 none 0 0 rfl rfl xr ?_; intro w9 H9))
    refine ret_row_tmp Br [.int .i64 0, .int .i64 0, .slice none 0 0] rfl rfl rfl Tryd.underlying30 rfl Tryd.info30 H9.out.1 rfl ?_
    exact ValE.bad 2 (hret.out _ _ H2.out H9.out.2)
  have eC2 : (C == 2) = false := by simpa using hC2
  cases V1
  · rw [if_pos (.inr (.inl rfl))]
    go_enter Tryd.func12, Tryd.ntmps12
    go_upto_region 1 with fail
    have e1 := HW.out.1
    obtain ⟨-, -, -, -, eBv, eBs, eBo, eBr⟩ := HW.out
    rw [← e1, ← eBr, ← eBo, ← eBs, ← eBv]
    clear e1 eBv eBs eBo eBr
    go_wp2_with (first
      | (go_at_call 21; refine k13.mono ?_; rintro e w2 ⟨rfl, b2⟩; clear x0 x1 x2 x3 x4 x5 x6 x7 x8 x9 x10 x11 x12 x13 xr; obtain ⟨⟨x0, x1, x2, x3, x4, x5, x6, x7, x8, x9, x10, x11, x12, x13⟩, xr⟩ := up.out w2 b2; have H2 := hide b2; clear b2)
      | (go_at_call 23; refine (k25 _ H2.out).mono ?_; rintro e w3 ⟨rfl, b3⟩; clear x0 x1 x2 x3 x4 x5 x6 x7 x8 x9 x10 x11 x12 x13 xr; obtain ⟨⟨x0, x1, x2, x3, x4, x5, x6, x7, x8, x9, x10, x11, x12, x13⟩, xr⟩ := up.out w3 (H2.out.trans (b3.mono H2.out.size)); have H3 := hide (H2.out.trans (b3.mono H2.out.size)); clear b3)
      | (refine wpList_storeV rfl rfl _ _ rfl Br 0 0 none 0 0 rfl rfl xr ?_; intro w9 H9))
    refine ret_row_tmp Br [.int .i64 0, .int .i64 0, .slice none 0 0] rfl rfl rfl Tryd.underlying30 rfl Tryd.info30 H9.out.1 rfl ?_
    exact ValE.bad 2 (hret.out _ _ H3.out H9.out.2)
  cases V2
  · rw [if_pos (.inr (.inr (.inl rfl)))]
    go_enter Tryd.func12, Tryd.ntmps12
    go_upto_region 1 with fail
    have e1 := HW.out.1
    obtain ⟨-, -, -, -, eBv, eBs, eBo, eBr⟩ := HW.out
    rw [← e1, ← eBr, ← eBo, ← eBs, ← eBv]
    clear e1 eBv eBs eBo eBr
    go_wp2_with (first
      | (go_at_call 21; refine k13.mono ?_; rintro e w2 ⟨rfl, b2⟩; clear x0 x1 x2 x3 x4 x5 x6 x7 x8 x9 x10 x11 x12 x13 xr; obtain ⟨⟨x0, x1, x2, x3, x4, x5, x6, x7, x8, x9, x10, x11, x12, x13⟩, xr⟩ := up.out w2 b2; have H2 := hide b2; clear b2)
      | (go_at_call 23; refine (k25 _ H2.out).mono ?_; rintro e w3 ⟨rfl, b3⟩; clear x0 x1 x2 x3 x4 x5 x6 x7 x8 x9 x10 x11 x12 x13 xr; obtain ⟨⟨x0, x1, x2, x3, x4, x5, x6, x7, x8, x9, x10, x11, x12, x13⟩, xr⟩ := up.out w3 (H2.out.trans (b3.mono H2.out.size)); have H3 := hide (H2.out.trans (b3.mono H2.out.size)); clear b3)
      | (go_at_call 24; refine (k54 _).mono ?_; rintro e w4 ⟨rfl, b4⟩; clear x0 x1 x2 x3 x4 x5 x6 x7 x8 x9 x10 x11 x12 x13 xr; obtain ⟨⟨x0, x1, x2, x3, x4, x5, x6, x7, x8, x9, x10, x11, x12, x13⟩, xr⟩ := up.out w4 (H3.out.trans (b4.mono H3.out.size)); have H4 := hide (H3.out.trans (b4.mono H3.out.size)); clear b4)
      | (refine wpList_storeV rfl rfl _ _ rfl Br 0 0 none 0 0 rfl rfl xr ?_; intro w9 H9))
    refine ret_row_tmp Br [.int .i64 0, .int .i64 0, .slice none 0 0] rfl rfl rfl Tryd.underlying30 rfl Tryd.info30 H9.out.1 rfl ?_
    exact ValE.bad 2 (hret.out _ _ H4.out H9.out.2)
  cases V3
  · rw [if_pos (.inr (.inr (.inr rfl)))]
    go_enter Tryd.func12, Tryd.ntmps12
    go_upto_region 1 with fail
    have e1 := HW.out.1
    obtain ⟨-, -, -, -, eBv, eBs, eBo, eBr⟩ := HW.out
    rw [← e1, ← eBr, ← eBo, ← eBs, ← eBv]
    clear e1 eBv eBs eBo eBr
    go_wp2_with (first
      | (go_at_call 21; refine k13.mono ?_; rintro e w2 ⟨rfl, b2⟩; clear x0 x1 x2 x3 x4 x5 x6 x7 x8 x9 x10 x11 x12 x13 xr; obtain ⟨⟨x0, x1, x2, x3, x4, x5, x6, x7, x8, x9, x10, x11, x12, x13⟩, xr⟩ := up.out w2 b2; have H2 := hide b2; clear b2)
      | (go_at_call 23; refine (k25 _ H2.out).mono ?_; rintro e w3 ⟨rfl, b3⟩; clear x0 x1 x2 x3 x4 x5 x6 x7 x8 x9 x10 x11 x12 x13 xr; obtain ⟨⟨x0, x1, x2, x3, x4, x5, x6, x7, x8, x9, x10, x11, x12, x13⟩, xr⟩ := up.out w3 (H2.out.trans (b3.mono H2.out.size)); have H3 := hide (H2.out.trans (b3.mono H2.out.size)); clear b3)
      | (go_at_call 24; refine (k54 _).mono ?_; rintro e w4 ⟨rfl, b4⟩; clear x0 x1 x2 x3 x4 x5 x6 x7 x8 x9 x10 x11 x12 x13 xr; obtain ⟨⟨x0, x1, x2, x3, x4, x5, x6, x7, x8, x9, x10, x11, x12, x13⟩, xr⟩ := up.out w4 (H3.out.trans (b4.mono H3.out.size)); have H4 := hide (H3.out.trans (b4.mono H3.out.size)); clear b4)
      | (go_at_call 25; refine (k55 _ H4.out).mono ?_; rintro e w5 ⟨rfl, b5⟩; clear x0 x1 x2 x3 x4 x5 x6 x7 x8 x9 x10 x11 x12 x13 xr; obtain ⟨⟨x0, x1, x2, x3, x4, x5, x6, x7, x8, x9, x10, x11, x12, x13⟩, xr⟩ := up.out w5 (H4.out.trans (b5.mono H4.out.size)); have H5 := hide (H4.out.trans (b5.mono H4.out.size)); clear b5)
      | (refine wpList_storeV rfl rfl _ _ rfl Br 0 0 none 0 0 rfl rfl xr ?_; intro w9 H9))
    refine ret_row_tmp Br [.int .i64 0, .int .i64 0, .slice none 0 0] rfl rfl rfl Tryd.underlying30 rfl Tryd.info30 H9.out.1 rfl ?_
    exact ValE.bad 2 (hret.out _ _ H5.out H9.out.2)
  rw [if_neg (by simp [hC2])]
  by_cases hC7 : C = 7
  · subst hC7
    rw [if_pos (.inl rfl)]
    go_enter Tryd.func12, Tryd.ntmps12
    go_upto_region 1 with fail
    have e1 := HW.out.1
    obtain ⟨-, -, -, -, eBv, eBs, eBo, eBr⟩ := HW.out
    rw [← e1, ← eBr, ← eBo, ← eBs, ← eBv]
    clear e1 eBv eBs eBo eBr
    go_wp2_with (first
      | (go_at_call 21; refine k13.mono ?_; rintro e w2 ⟨rfl, b2⟩; clear x0 x1 x2 x3 x4 x5 x6 x7 x8 x9 x10 x11 x12 x13 xr; obtain ⟨⟨x0, x1, x2, x3, x4, x5, x6, x7, x8, x9, x10, x11, x12, x13⟩, xr⟩ := up.out w2 b2; have H2 := hide b2; clear b2)
      | (go_at_call 23; refine (k25 _ H2.out).mono ?_; rintro e w3 ⟨rfl, b3⟩; clear x0 x1 x2 x3 x4 x5 x6 x7 x8 x9 x10 x11 x12 x13 xr; obtain ⟨⟨x0, x1, x2, x3, x4, x5, x6, x7, x8, x9, x10, x11, x12, x13⟩, xr⟩ := up.out w3 (H2.out.trans (b3.mono H2.out.size)); have H3 := hide (H2.out.trans (b3.mono H2.out.size)); clear b3)
      | (go_at_call 24; refine (k54 _).mono ?_; rintro e w4 ⟨rfl, b4⟩; clear x0 x1 x2 x3 x4 x5 x6 x7 x8 x9 x10 x11 x12 x13 xr; obtain ⟨⟨x0, x1, x2, x3, x4, x5, x6, x7, x8, x9, x10, x11, x12, x13⟩, xr⟩ := up.out w4 (H3.out.trans (b4.mono H3.out.size)); have H4 := hide (H3.out.trans (b4.mono H3.out.size)); clear b4)
      | (go_at_call 25; refine (k55 _ H4.out).mono ?_; rintro e w5 ⟨rfl, b5⟩; clear x0 x1 x2 x3 x4 x5 x6 x7 x8 x9 x10 x11 x12 x13 xr; obtain ⟨⟨x0, x1, x2, x3, x4, x5, x6, x7, x8, x9, x10, x11, x12, x13⟩, xr⟩ := up.out w5 (H4.out.trans (b5.mono H4.out.size)); have H5 := hide (H4.out.trans (b5.mono H4.out.size)); clear b5)
      | (refine wpList_storeV rfl rfl _ _ rfl Br 0 0 none 0 0 rfl rfl xr ?_; intro w9 H9))
    refine ret_row_tmp Br [.int .i64 0, .int .i64 0, .slice none 0 0] rfl rfl rfl Tryd.underlying30 rfl Tryd.info30 H9.out.1 rfl ?_
    exact ValE.bad 7 (hret.out _ _ H5.out H9.out.2)
  have eC7 : (C == 7) = false := by simpa using hC7
  by_cases hk : ok = k
  · subst hk
    rw [if_neg (by simp [hC7])]
    go_enter Tryd.func12, Tryd.ntmps12
    go_upto_region 1 with fail
    have e1 := HW.out.1
    obtain ⟨-, -, -, -, eBv, eBs, eBo, eBr⟩ := HW.out
    rw [← e1, ← eBr, ← eBo, ← eBs, ← eBv]
    clear e1 eBv eBs eBo eBr
    go_upto_region 11 with (first
      | (go_at_call 21; refine k13.mono ?_; rintro e w2 ⟨rfl, b2⟩; clear x0 x1 x2 x3 x4 x5 x6 x7 x8 x9 x10 x11 x12 x13 xr; obtain ⟨⟨x0, x1, x2, x3, x4, x5, x6, x7, x8, x9, x10, x11, x12, x13⟩, xr⟩ := up.out w2 b2; have H2 := hide b2; clear b2)
      | (go_at_call 23; refine (k25 _ H2.out).mono ?_; rintro e w3 ⟨rfl, b3⟩; clear x0 x1 x2 x3 x4 x5 x6 x7 x8 x9 x10 x11 x12 x13 xr; obtain ⟨⟨x0, x1, x2, x3, x4, x5, x6, x7, x8, x9, x10, x11, x12, x13⟩, xr⟩ := up.out w3 (H2.out.trans (b3.mono H2.out.size)); have H3 := hide (H2.out.trans (b3.mono H2.out.size)); clear b3)
      | (go_at_call 24; refine (k54 _).mono ?_; rintro e w4 ⟨rfl, b4⟩; clear x0 x1 x2 x3 x4 x5 x6 x7 x8 x9 x10 x11 x12 x13 xr; obtain ⟨⟨x0, x1, x2, x3, x4, x5, x6, x7, x8, x9, x10, x11, x12, x13⟩, xr⟩ := up.out w4 (H3.out.trans (b4.mono H3.out.size)); have H4 := hide (H3.out.trans (b4.mono H3.out.size)); clear b4)
      | (go_at_call 25; refine (k55 _ H4.out).mono ?_; rintro e w5 ⟨rfl, b5⟩; clear x0 x1 x2 x3 x4 x5 x6 x7 x8 x9 x10 x11 x12 x13 xr; obtain ⟨⟨x0, x1, x2, x3, x4, x5, x6, x7, x8, x9, x10, x11, x12, x13⟩, xr⟩ := up.out w5 (H4.out.trans (b5.mono H4.out.size)); have H5 := hide (H4.out.trans (b5.mono H4.out.size)); clear b5))
    obtain ⟨w6, hw6⟩ : ∃ w6, w6 = w5.alloc (.cells #[.int .i64 g, .int .i64 r, .string l0, .int .i64 n0, .int .i64 i0, .string ot] 58) := ⟨_, rfl⟩
    have b6 : Below w5.heap.size w5 w6 := by rw [hw6]; exact (Below.refl _ w5).alloc (Nat.le_refl _) _
    obtain ⟨c0, c1, c2, c3, c4, c5⟩ := new6 w5 (.int .i64 g) (.int .i64 r) (.string l0) (.int .i64 n0) (.int .i64 i0) (.string ot) 58
    rw [← hw6] at c0 c1 c2 c3 c4 c5 ⊢
    obtain ⟨X, hX⟩ : ∃ X, X = w5.heap.size := ⟨_, rfl⟩
    rw [← hX] at c0 c1 c2 c3 c4 c5 ⊢
    have b16 := H5.out.trans (b6.mono H5.out.size)
    have H6 := hide b16
    clear x0 x1 x2 x3 x4 x5 x6 x7 x8 x9 x10 x11 x12 x13 xr
    obtain ⟨⟨x0, x1, x2, x3, x4, x5, x6, x7, x8, x9, x10, x11, x12, x13⟩, xr⟩ := up.out w6 b16
    have hS : w6.cell? ⟨Bv, 0, none⟩ = some (.int .i64 ok) ∧ w6.cell? ⟨Bv, 1, none⟩ = some (.int .i64 n) ∧ w6.cell? ⟨Bv, 2, none⟩ = some (.slice ao N c) ∧ w6.cell? ⟨Bo, 3, none⟩ = some (.int .i64 d) ∧ w6.cell? ⟨Bo, 4, none⟩ = some (.int .i64 on) ∧ w6.cell? ⟨X, 0, none⟩ = some (.int .i64 g) ∧ w6.cell? ⟨X, 1, none⟩ = some (.int .i64 r) ∧ w6.cell? ⟨X, 2, none⟩ = some (.string l0) ∧ w6.cell? ⟨X, 3, none⟩ = some (.int .i64 n0) ∧ w6.cell? ⟨X, 4, none⟩ = some (.int .i64 i0) ∧ w6.cell? ⟨X, 5, none⟩ = some (.string ot) ∧ Hid (Below w1.heap.size w1 w6 ∨ Below w.heap.size w w6) := ⟨x0, x1, x2, x11, x12, c0, c1, c2, c3, c4, c5, hide (.inl b16)⟩
    have hXl : X < w6.heap.size := World.block_lt_of_cell? _ _ c0
    have HX := hide (And.intro hXl (And.intro hX (H5.out.size)))
    clear c0 c1 c2 c3 c4 c5 hw6 hX hXl b6 b16 x0 x1 x2 x3 x4 x5 x6 x7 x8 x9 x10 x11 x12 x13 xr k13 k25 k54 k55
    have qd : w6.drew.cell? ⟨Bv, 0, none⟩ = some (.int .i64 ok) ∧ w6.drew.cell? ⟨Bv, 1, none⟩ = some (.int .i64 n) ∧ w6.drew.cell? ⟨Bv, 2, none⟩ = some (.slice ao N c) ∧ w6.drew.cell? ⟨Bo, 3, none⟩ = some (.int .i64 d) ∧ w6.drew.cell? ⟨Bo, 4, none⟩ = some (.int .i64 on) ∧ w6.drew.cell? ⟨X, 0, none⟩ = some (.int .i64 g) ∧ w6.drew.cell? ⟨X, 1, none⟩ = some (.int .i64 r) ∧ w6.drew.cell? ⟨X, 2, none⟩ = some (.string l0) ∧ w6.drew.cell? ⟨X, 3, none⟩ = some (.int .i64 n0) ∧ w6.drew.cell? ⟨X, 4, none⟩ = some (.int .i64 i0) ∧ w6.drew.cell? ⟨X, 5, none⟩ = some (.string ot) ∧ Hid (Below w1.heap.size w1 w6.drew ∨ Below w.heap.size w w6.drew) := ⟨hS.1, hS.2.1, hS.2.2.1, hS.2.2.2.1, hS.2.2.2.2.1, hS.2.2.2.2.2.1, hS.2.2.2.2.2.2.1, hS.2.2.2.2.2.2.2.1, hS.2.2.2.2.2.2.2.2.1, hS.2.2.2.2.2.2.2.2.2.1, hS.2.2.2.2.2.2.2.2.2.2.1, hide (.inl (H6.out.trans ((drew_below w6).mono H6.out.size)))⟩
    have Hd := hide (H6.out.trans ((drew_below w6).mono H6.out.size))
    have wz : IntKind.i64.wrap (n + on) = wrap64 (n + on) := by rw [IntKind.wrap_i64, wrap64]
    obtain ⟨NN, hNN⟩ : ∃ z, z = wrap64 (n + on) := ⟨_, rfl⟩
    rw [← hNN] at wz
    have wz' : wrap64 (n + on) = NN := hNN.symm
    have HNN := hide hNN
    clear hNN
    refine wp_region_held_drew (S := (fun w' => w'.cell? ⟨Bv, 0, none⟩ = some (.int .i64 ok) ∧ w'.cell? ⟨Bv, 1, none⟩ = some (.int .i64 n) ∧ w'.cell? ⟨Bv, 2, none⟩ = some (.slice ao N c) ∧ w'.cell? ⟨Bo, 3, none⟩ = some (.int .i64 d) ∧ w'.cell? ⟨Bo, 4, none⟩ = some (.int .i64 on) ∧ w'.cell? ⟨X, 0, none⟩ = some (.int .i64 g) ∧ w'.cell? ⟨X, 1, none⟩ = some (.int .i64 r) ∧ w'.cell? ⟨X, 2, none⟩ = some (.string l0) ∧ w'.cell? ⟨X, 3, none⟩ = some (.int .i64 n0) ∧ w'.cell? ⟨X, 4, none⟩ = some (.int .i64 i0) ∧ w'.cell? ⟨X, 5, none⟩ = some (.string ot) ∧ Hid (Below w1.heap.size w1 w' ∨ Below w.heap.size w w'))) (by kernel_rfl) qd (fun hHeld => ?_)
    try dsimp only at hHeld
    refine take_op (i := 0) (d := 40) (OP := Op.fieldAddr 30 (Operand.tmp 3) 0) (T := 0) (v := ?vzz1) rfl rfl rfl rfl (by kernel_rfl) (by kernel_rfl) (by kernel_rfl) (fun _ _ _ h => h) (by rfl) ?hzz1 hHeld ?rzz1
    case hzz1 => (intro w' hSw; (try dsimp only at hSw); go_simp <;> with_reducible rfl)
    try simp only [Act.put, List.setIfInBounds_toArray, List.set_cons_zero, List.set_cons_succ]
    refine take_op (i := 1) (d := 41) (OP := Op.load 25 (Operand.tmp 40)) (T := 25) (v := ?vzz2) rfl rfl rfl rfl (by kernel_rfl) (by kernel_rfl) (by kernel_rfl) (fun _ _ _ h => h) (by rfl) ?hzz2 hHeld ?rzz2
    case hzz2 => (intro w' hSw; (try dsimp only at hSw); go_simp <;> with_reducible rfl)
    try simp only [Act.put, List.setIfInBounds_toArray, List.set_cons_zero, List.set_cons_succ]
    refine take_op (i := 2) (d := 42) (OP := Op.fieldAddr 30 (Operand.tmp 3) 1) (T := 0) (v := ?vzz3) rfl rfl rfl rfl (by kernel_rfl) (by kernel_rfl) (by kernel_rfl) (fun _ _ _ h => h) (by rfl) ?hzz3 hHeld ?rzz3
    case hzz3 => (intro w' hSw; (try dsimp only at hSw); go_simp <;> with_reducible rfl)
    try simp only [Act.put, List.setIfInBounds_toArray, List.set_cons_zero, List.set_cons_succ]
    refine take_op (i := 3) (d := 43) (OP := Op.load 2 (Operand.tmp 42)) (T := 2) (v := ?vzz4) rfl rfl rfl rfl (by kernel_rfl) (by kernel_rfl) (by kernel_rfl) (fun _ _ _ h => h) (by rfl) ?hzz4 hHeld ?rzz4
    case hzz4 => (intro w' hSw; (try dsimp only at hSw); go_simp <;> with_reducible rfl)
    try simp only [Act.put, List.setIfInBounds_toArray, List.set_cons_zero, List.set_cons_succ]
    refine take_op (i := 4) (d := 44) (OP := Op.fieldAddr 50 (Operand.tmp 5) 4) (T := 0) (v := ?vzz5) rfl rfl rfl rfl (by kernel_rfl) (by kernel_rfl) (by kernel_rfl) (fun _ _ _ h => h) (by rfl) ?hzz5 hHeld ?rzz5
    case hzz5 => (intro w' hSw; (try dsimp only at hSw); go_simp <;> with_reducible rfl)
    try simp only [Act.put, List.setIfInBounds_toArray, List.set_cons_zero, List.set_cons_succ]
    refine take_op (i := 5) (d := 45) (OP := Op.load 2 (Operand.tmp 44)) (T := 2) (v := ?vzz6) rfl rfl rfl rfl (by kernel_rfl) (by kernel_rfl) (by kernel_rfl) (fun _ _ _ h => h) (by rfl) ?hzz6 hHeld ?rzz6
    case hzz6 => (intro w' hSw; (try dsimp only at hSw); go_simp <;> with_reducible rfl)
    try simp only [Act.put, List.setIfInBounds_toArray, List.set_cons_zero, List.set_cons_succ]
    refine take_op (i := 6) (d := 46) (OP := Op.binOp BinOp.add 2 (Operand.tmp 43) (Operand.tmp 45) 2) (T := 2) (v := ?vzz7) rfl rfl rfl rfl (by kernel_rfl) (by kernel_rfl) (by kernel_rfl) (fun _ _ _ h => h) (by rfl) ?hzz7 hHeld ?rzz7
    case hzz7 => (intro w' hSw; (try dsimp only at hSw); go_simp <;> with_reducible rfl)
    try simp only [Act.put, List.setIfInBounds_toArray, List.set_cons_zero, List.set_cons_succ]
    refine take_op (i := 7) (d := 47) (OP := Op.fieldAddr 30 (Operand.tmp 3) 2) (T := 0) (v := ?vzz8) rfl rfl rfl rfl (by kernel_rfl) (by kernel_rfl) (by kernel_rfl) (fun _ _ _ h => h) (by rfl) ?hzz8 hHeld ?rzz8
    case hzz8 => (intro w' hSw; (try dsimp only at hSw); go_simp <;> with_reducible rfl)
    try simp only [Act.put, List.setIfInBounds_toArray, List.set_cons_zero, List.set_cons_succ]
    refine take_op (i := 8) (d := 48) (OP := Op.load 28 (Operand.tmp 47)) (T := 28) (v := ?vzz9) rfl rfl rfl rfl (by kernel_rfl) (by kernel_rfl) (by kernel_rfl) (fun _ _ _ h => h) (by rfl) ?hzz9 hHeld ?rzz9
    case hzz9 => (intro w' hSw; (try dsimp only at hSw); go_simp <;> with_reducible rfl)
    try simp only [Act.put, List.setIfInBounds_toArray, List.set_cons_zero, List.set_cons_succ]
    refine take_op (i := 9) (d := 49) (OP := Op.fieldAddr 50 (Operand.tmp 5) 3) (T := 0) (v := ?vzz10) rfl rfl rfl rfl (by kernel_rfl) (by kernel_rfl) (by kernel_rfl) (fun _ _ _ h => h) (by rfl) ?hzz10 hHeld ?rzz10
    case hzz10 => (intro w' hSw; (try dsimp only at hSw); go_simp <;> with_reducible rfl)
    try simp only [Act.put, List.setIfInBounds_toArray, List.set_cons_zero, List.set_cons_succ]
    refine take_op (i := 10) (d := 50) (OP := Op.load 48 (Operand.tmp 49)) (T := 48) (v := ?vzz11) rfl rfl rfl rfl (by kernel_rfl) (by kernel_rfl) (by kernel_rfl) (fun _ _ _ h => h) (by rfl) ?hzz11 hHeld ?rzz11
    case hzz11 => (intro w' hSw; (try dsimp only at hSw); go_simp <;> with_reducible rfl)
    try simp only [Act.put, List.setIfInBounds_toArray, List.set_cons_zero, List.set_cons_succ]
    refine take_op (i := 11) (d := 51) (OP := Op.load 58 (Operand.tmp 9)) (T := 58) (v := ?vzz12) rfl rfl rfl rfl (by kernel_rfl) (by kernel_rfl) (by kernel_rfl) (fun _ _ _ h => h) (by rfl) ?hzz12 hHeld ?rzz12
    case hzz12 => (intro w' hSw; (try dsimp only at hSw); go_simp <;> with_reducible rfl)
    try simp only [Act.put, List.setIfInBounds_toArray, List.set_cons_zero, List.set_cons_succ]
    refine call_op (i := 12) (d := 52) (OP := Op.call { callee := Callee.value (Operand.func 26), args := #[Operand.tmp 48, Operand.tmp 50, Operand.tmp 51], argTypes := #[28, 48, 58] }) (T := 28) (f := 26) (args := #[.slice ao N c, .int .i64 d, .agg #[.int .i64 g, .int .i64 r, .string l0, .int .i64 n0, .int .i64 i0, .string ot]]) rfl rfl rfl rfl (by kernel_rfl) (by rfl) (by go_simp) ?_
    refine (k56 _ Hd.out).mono ?_
    rintro e z ⟨a7, c7, rfl, hnv, bz⟩
    have Hz := hide (Hd.out.trans (bz.mono Hd.out.size))
    have qz : z.cell? ⟨Bv, 0, none⟩ = some (.int .i64 ok) ∧ z.cell? ⟨Bv, 1, none⟩ = some (.int .i64 n) ∧ z.cell? ⟨Bv, 2, none⟩ = some (.slice ao N c) ∧ z.cell? ⟨Bo, 3, none⟩ = some (.int .i64 d) ∧ z.cell? ⟨Bo, 4, none⟩ = some (.int .i64 on) ∧ z.cell? ⟨X, 0, none⟩ = some (.int .i64 g) ∧ z.cell? ⟨X, 1, none⟩ = some (.int .i64 r) ∧ z.cell? ⟨X, 2, none⟩ = some (.string l0) ∧ z.cell? ⟨X, 3, none⟩ = some (.int .i64 n0) ∧ z.cell? ⟨X, 4, none⟩ = some (.int .i64 i0) ∧ z.cell? ⟨X, 5, none⟩ = some (.string ot) ∧ Hid (Below w1.heap.size w1 z ∨ Below w.heap.size w z) := ⟨cell_stays hHeld.1 bz, cell_stays hHeld.2.1 bz, cell_stays hHeld.2.2.1 bz, cell_stays hHeld.2.2.2.1 bz, cell_stays hHeld.2.2.2.2.1 bz, cell_stays hHeld.2.2.2.2.2.1 bz, cell_stays hHeld.2.2.2.2.2.2.1 bz, cell_stays hHeld.2.2.2.2.2.2.2.1 bz, cell_stays hHeld.2.2.2.2.2.2.2.2.1 bz, cell_stays hHeld.2.2.2.2.2.2.2.2.2.1 bz, cell_stays hHeld.2.2.2.2.2.2.2.2.2.2.1 bz, hide (.inl Hz.out)⟩
    refine ⟨_, rfl, qz, ?_⟩
    replace hHeld := qz
    have HNV := hide hnv
    clear hnv bz qz
    try simp only [Act.put, List.setIfInBounds_toArray, List.set_cons_zero, List.set_cons_succ]
    refine take_op (i := 13) (d := 53) (OP := Op.build 30 #[(0, Operand.tmp 41), (1, Operand.tmp 46), (2, Operand.tmp 52)]) (T := 30) (v := ?vzz13) rfl rfl rfl rfl (by kernel_rfl) (by kernel_rfl) (by kernel_rfl) (fun _ _ _ h => h) (by rfl) ?hzz13 hHeld ?rzz13
    case hzz13 => (intro w' hSw; (try dsimp only at hSw); go_simp <;> with_reducible rfl)
    try simp only [Act.put, List.setIfInBounds_toArray, List.set_cons_zero, List.set_cons_succ]
    have hrow : z.heap[Br]? = some (.cells #[.int .i64 0, .int .i64 0, .slice none 0 0] 30 (0, 0)) := (up.out z Hz.out).2
    obtain ⟨s1, s2, s3⟩ := rowV hrow (.int .i64 ok) (.int .i64 NN) (.slice a7 M c7)
    obtain ⟨y, hy⟩ : ∃ y, y = z.setCells Br 0 [.int .i64 ok, .int .i64 NN, .slice a7 M c7] := ⟨_, rfl⟩
    rw [← hy] at s1 s2
    have hyb := hret.out _ _ Hz.out s2
    have qy : y.cell? ⟨Bv, 0, none⟩ = some (.int .i64 ok) ∧ y.cell? ⟨Bv, 1, none⟩ = some (.int .i64 n) ∧ y.cell? ⟨Bv, 2, none⟩ = some (.slice ao N c) ∧ y.cell? ⟨Bo, 3, none⟩ = some (.int .i64 d) ∧ y.cell? ⟨Bo, 4, none⟩ = some (.int .i64 on) ∧ y.cell? ⟨X, 0, none⟩ = some (.int .i64 g) ∧ y.cell? ⟨X, 1, none⟩ = some (.int .i64 r) ∧ y.cell? ⟨X, 2, none⟩ = some (.string l0) ∧ y.cell? ⟨X, 3, none⟩ = some (.int .i64 n0) ∧ y.cell? ⟨X, 4, none⟩ = some (.int .i64 i0) ∧ y.cell? ⟨X, 5, none⟩ = some (.string ot) ∧ Hid (Below w1.heap.size w1 y ∨ Below w.heap.size w y) := ⟨s2.cell hHeld.1 (by have := HW.out; have := HX.out; simp only; omega), s2.cell hHeld.2.1 (by have := HW.out; have := HX.out; simp only; omega), s2.cell hHeld.2.2.1 (by have := HW.out; have := HX.out; simp only; omega), s2.cell hHeld.2.2.2.1 (by have := HW.out; have := HX.out; simp only; omega), s2.cell hHeld.2.2.2.2.1 (by have := HW.out; have := HX.out; simp only; omega), s2.cell hHeld.2.2.2.2.2.1 (by have := HW.out; have := HX.out; simp only; omega), s2.cell hHeld.2.2.2.2.2.2.1 (by have := HW.out; have := HX.out; simp only; omega), s2.cell hHeld.2.2.2.2.2.2.2.1 (by have := HW.out; have := HX.out; simp only; omega), s2.cell hHeld.2.2.2.2.2.2.2.2.1 (by have := HW.out; have := HX.out; simp only; omega), s2.cell hHeld.2.2.2.2.2.2.2.2.2.1 (by have := HW.out; have := HX.out; simp only; omega), s2.cell hHeld.2.2.2.2.2.2.2.2.2.2.1 (by have := HW.out; have := HX.out; simp only; omega), hide (.inr hyb)⟩
    refine skip_op (i := 14) (OP := Op.store 30 (Operand.tmp 6) (Operand.tmp 53)) (T := 0) (w' := y) rfl rfl rfl rfl (by kernel_rfl) (by rfl) (by rw [hy]; exact exec_storeV rfl rfl hrow) ⟨qy, ?_⟩
    replace hHeld := qy
    try simp only [Act.put, List.setIfInBounds_toArray, List.set_cons_zero, List.set_cons_succ]
    refine take_op (i := 15) (d := 7) (OP := Op.assign (Operand.const (Value.int IntKind.i64 0))) (T := 31) (v := ?vzz14) rfl rfl rfl rfl (by kernel_rfl) (by kernel_rfl) (by kernel_rfl) (fun _ _ _ h => h) (by rfl) ?hzz14 hHeld ?rzz14
    case hzz14 => (intro w' hSw; (try dsimp only at hSw); go_simp <;> with_reducible rfl)
    try simp only [Act.put, List.setIfInBounds_toArray, List.set_cons_zero, List.set_cons_succ]
    refine wpAnyH_done (by kernel_rfl) ?_ _
    have HY := hide (And.intro s1 (And.intro s2 hyb))
    clear s1 s2 s3 hyb hHeld qy qd hS hrow hy
    go_wp2
    refine ret_row_tmp Br [.int .i64 ok, .int .i64 NN, .slice a7 M c7] rfl rfl rfl Tryd.underlying30 rfl Tryd.info30 HY.out.1 rfl ?_
    refine ⟨a7, c7, by rw [← HNN.out, ← HW.out.2.2.1]; rfl, ⟨⟨⟨HNV.out.rv.re.1, fun a ha j u hj => ?_⟩, HNV.out.rv.cap, HNV.out.rv.nil, HNV.out.rv.spot⟩, fun a ha => ?_⟩, HY.out.2.2⟩
    · have hnew := HNV.out.new a ha
      have hbl : (a.add j).block = a.block := by unfold Addr.add; split <;> rfl
      refine HY.out.2.1.cell (HNV.out.rv.re.2 a ha j u hj) ?_
      have h6s : w1.heap.size ≤ w6.drew.heap.size := Hd.out.size
      have := HW.out
      rw [hbl]; omega
    · have hnew := HNV.out.new a ha
      have h6s : w1.heap.size ≤ w6.drew.heap.size := Hd.out.size
      have := HW.out
      omega
  · have ek : (ok == k) = false := by simpa using hk
    rw [if_pos (.inr hk)]
    go_enter Tryd.func12, Tryd.ntmps12
    go_upto_region 1 with fail
    have e1 := HW.out.1
    obtain ⟨-, -, -, -, eBv, eBs, eBo, eBr⟩ := HW.out
    rw [← e1, ← eBr, ← eBo, ← eBs, ← eBv]
    clear e1 eBv eBs eBo eBr
    go_wp2_with (first
      | (go_at_call 21; refine k13.mono ?_; rintro e w2 ⟨rfl, b2⟩; clear x0 x1 x2 x3 x4 x5 x6 x7 x8 x9 x10 x11 x12 x13 xr; obtain ⟨⟨x0, x1, x2, x3, x4, x5, x6, x7, x8, x9, x10, x11, x12, x13⟩, xr⟩ := up.out w2 b2; have H2 := hide b2; clear b2)
      | (go_at_call 23; refine (k25 _ H2.out).mono ?_; rintro e w3 ⟨rfl, b3⟩; clear x0 x1 x2 x3 x4 x5 x6 x7 x8 x9 x10 x11 x12 x13 xr; obtain ⟨⟨x0, x1, x2, x3, x4, x5, x6, x7, x8, x9, x10, x11, x12, x13⟩, xr⟩ := up.out w3 (H2.out.trans (b3.mono H2.out.size)); have H3 := hide (H2.out.trans (b3.mono H2.out.size)); clear b3)
      | (go_at_call 24; refine (k54 _).mono ?_; rintro e w4 ⟨rfl, b4⟩; clear x0 x1 x2 x3 x4 x5 x6 x7 x8 x9 x10 x11 x12 x13 xr; obtain ⟨⟨x0, x1, x2, x3, x4, x5, x6, x7, x8, x9, x10, x11, x12, x13⟩, xr⟩ := up.out w4 (H3.out.trans (b4.mono H3.out.size)); have H4 := hide (H3.out.trans (b4.mono H3.out.size)); clear b4)
      | (go_at_call 25; refine (k55 _ H4.out).mono ?_; rintro e w5 ⟨rfl, b5⟩; clear x0 x1 x2 x3 x4 x5 x6 x7 x8 x9 x10 x11 x12 x13 xr; obtain ⟨⟨x0, x1, x2, x3, x4, x5, x6, x7, x8, x9, x10, x11, x12, x13⟩, xr⟩ := up.out w5 (H4.out.trans (b5.mono H4.out.size)); have H5 := hide (H4.out.trans (b5.mono H4.out.size)); clear b5)
      | (refine wpList_storeV rfl rfl _ _ rfl Br 0 0 none 0 0 rfl rfl xr ?_; intro w9 H9))
    refine ret_row_tmp Br [.int .i64 0, .int .i64 0, .slice none 0 0] rfl rfl rfl Tryd.underlying30 rfl Tryd.info30 H9.out.1 rfl ?_
    exact ValE.bad 7 (hret.out _ _ H5.out H9.out.2)
end Go.Proofs.YtkdgageljgfgoaaDoor
