/-
  queue: one step of the law QueueSteps (do 62).
-/
import Derived.Test.YtkkpdgfllnbigaaGreatMg21
namespace Go.Proofs.YtkkpdgfllnbigaaGreat.Qu
open Go.RowKit Go.Shelf
set_option linter.unusedSimpArgs false
set_option linter.unusedVariables false
attribute [local go_sem] Oper.semAt_some

/-- A row of elements as a slice of Go has it. -/
structure RQ (w : World) (ao : Option Addr) (c : Nat) (l : List El) : Prop where
  re : Re w ao l
  cap : l.length ≤ c
  nil : ao = none → c = 0
  spot : ∀ a, ao = some a → a.spot = none
theorem RQ.below {w w' : World} {ao : Option Addr} {c : Nat} {l : List El} (h : RQ w ao c l) (hb : Below w.heap.size w w') : RQ w' ao c l := ⟨h.re.below hb, h.cap, h.nil, h.spot⟩
theorem RQ.aside {w w' : World} {B : Nat} {p : Option Addr} {ao : Option Addr} {c : Nat} {l : List El} (h : RQ w ao c l) (hw : w.heap[B]? = some (.cells #[.pointer p] 27 (0, 0))) (ho : Only (fun j => j = B) w w') : RQ w' ao c l := ⟨h.re.aside hw ho, h.cap, h.nil, h.spot⟩
theorem RQ.of {w : World} {B n c : Nat} {ao : Option Addr} {L : List El} (h : Oe w B (.slice ao n c) L) : RQ w ao c L := by
  obtain ⟨hr, hs, hz⟩ := h.reo
  obtain ⟨a', c', e, h1, h2, h3, -⟩ := h.form
  injection e with e1 e2 e3
  rw [e3]
  exact ⟨hr, h3, by rw [← e3]; exact hz, hs⟩
def DoE (w : World) (t : Pm.T) (e : Ending) (w' : World) : Prop := ∃ t' pt a' c', t'.ptr = .pointer pt ∧ e = .returned (.tuple #[.agg #[.pointer pt], .slice a' (elsL t'.list).length c', .bool true]) ∧ Mg w' t' ∧ mayL t'.list = true ∧ RQ w' a' c' (elsL t'.list) ∧ t'.n ≤ t.n + 1 ∧ Below w.heap.size w w'
theorem ret_row_tt {P : Program} {fn : Func} {p q s : Tmp} {ty : TypeId} (b : Nat) (cs : List Value) {R : Ending → World → Prop} {a : Act} {w : World} (h : fn.results = #[.cell p ty, .tmp q, .tmp s]) (hp : a.tmps.getD p undef = .pointer (some ⟨b, 0, none⟩)) {u v : Value} (hq : a.tmps.getD q undef = u) (hs : a.tmps.getD s undef = v)
    {d : TypeDesc} (hu : P.underlying ty = some d) (hd : d.isRow = true) (hi : (P.info? ty).map (·.size) = some cs.length) {t : TypeId} {fr : Nat × Nat} (hc : w.heap[b]? = some (.cells cs.toArray t fr)) (hdef : a.defers = [])
    (hR : R (.returned (.tuple #[.agg cs.toArray, u, v])) w) : bodyPost P fn R .ret a w := by
  refine bodyPost_ret (v := .tuple #[.agg cs.toArray, u, v]) ?_ hdef hR
  have := run_loadVar_mid (P := P) w b 0 ty cs _ (fun j v hv => by rw [cell_of_row w b (0 + j) cs.toArray t fr hc, Nat.zero_add]; simpa using hv) hu hd hi
  have hp' : a.tmps[p]?.getD undef = .pointer (some ⟨b, 0, none⟩) := by simpa using hp
  have hq' : a.tmps[q]?.getD undef = u := by simpa using hq
  have hs' : a.tmps[s]?.getD undef = v := by simpa using hs
  simp [results, h, hp', hq', hs', asAddr, Sem.run_bind, Result.andThen, this]
theorem els_app {l : List Kv} (hm : mayL l = true) {s : St} {X : ByteArray} (hv : stV s = true) (hx : txtB X = true) : mayL (l ++ [(keyT s, X)]) = true ∧ elsL (l ++ [(keyT s, X)]) = elsL l ++ [(s, X)] := by
  have h1 : mayL (l ++ [(keyT s, X)]) = true := by
    unfold mayL at hm ⊢
    rw [List.all_append, hm]
    simp [okKv, okV_key hv, hx]
  refine ⟨h1, ?_⟩
  rw [elsL, if_pos h1, elsL, if_pos hm]
  unfold elsM
  rw [List.map_append]
  simp [ofT_key hv]
theorem els_size {l : List Kv} (hm : mayL l = true) {x : El} (hx : x ∈ elsL l) : x.1.2.2.1.size ≤ 9223372036854775807 := by
  rw [elsL, if_pos hm] at hx
  obtain ⟨y, hy, rfl⟩ := List.mem_map.1 hx
  have h1 := List.all_eq_true.1 hm y hy
  have h2 : stV (ofT y.1) = true := (okV_of (by unfold okKv at h1; rw [Bool.and_eq_true] at h1; exact h1.1)).2
  have := S_bounds h2
  show (ofT y.1).2.2.1.size ≤ _
  omega
theorem add_spot {a : Addr} {j : Nat} (h : a.spot = none) : (a.add j).spot = none := by
  obtain ⟨b, o, sp⟩ := a
  simp only at h
  subst h
  rw [add_lit]
theorem slice_loQ {w : World} {ao : Option Addr} {c k : Nat} {l : List El} (h : RQ w ao c l) (hk : k ≤ l.length) :
    ∃ A, (∀ w', (Instr.slice 22 (.slice ao l.length c) (some (.int .i64 k)) none none).run Tryz.prog w' = .ok (.slice A (l.length - k) (c - k)) w') ∧ RQ w A (c - k) (l.drop k) := by
  refine ⟨if c = k then ao else ao.map (fun x => x.add (k * 6)), fun w' => ?_, ⟨?_, ?_, ?_, ?_⟩⟩
  · have h2 : (0 : Int) ≤ (k : Int) ∧ (k : Int) ≤ (l.length : Int) := by omega
    have hc := h.cap
    simp [Instr.slice, Instr.sliceBounds, Instr.sliceBound, asIntOf, run_underlying Tryz.underlying22, go_sem, hk, hc, show k ≤ c by omega, Tryz.sizeOf53]
  · by_cases hc : c = k
    · have := h.cap
      rw [if_pos hc, List.drop_eq_nil_of_le (by omega)]; exact Re.nil _ _
    · rw [if_neg hc]
      cases ao with
      | none => rw [h.re.1 rfl]; simp; exact Re.nil _ _
      | some a => obtain ⟨b, o, s⟩ := a; have := h.spot _ rfl; simp only at this; subst this; rw [Option.map_some, add_lit]; exact h.re.drop k hk
  · have := h.cap
    rw [List.length_drop]; omega
  · intro e
    by_cases hc : c = k
    · omega
    · rw [if_neg hc] at e
      have : ao = none := by cases ao with
        | none => rfl
        | some a => cases e
      rw [h.nil this]; omega
  · intro a ha
    by_cases hc : c = k
    · rw [if_pos hc] at ha; exact h.spot a ha
    · rw [if_neg hc] at ha
      obtain ⟨b, hb, rfl⟩ := Option.map_eq_some_iff.1 ha
      exact add_spot (h.spot b hb)
theorem may_drop {l : List Kv} (hm : mayL l = true) (k : Nat) : mayL (l.drop k) = true := List.all_eq_true.2 (fun y hy => may_mem hm (List.mem_of_mem_drop hy))
theorem els_drop {l : List Kv} (hm : mayL l = true) (k : Nat) : elsL (l.drop k) = (elsL l).drop k := by
  rw [elsL, if_pos (may_drop hm k), elsL, if_pos hm]
  unfold elsM
  rw [List.map_drop]
set_option maxHeartbeats 16000000 in
set_option maxRecDepth 100000 in
theorem do62 {w : World} {t : Pm.T} {pm : Option Addr} {ao : Option Addr} {c : Nat} (K nn : Int) (s : St) (X : ByteArray) (h : Mg w t) (hn : t.n < 399) (hp : t.ptr = .pointer pm) (hm : mayL t.list = true) (hrq : RQ w ao c (elsL t.list)) (hss : s.2.2.1.size ≤ 9223372036854775807) :
    Calls Tryz.prog 66 #[.agg #[.pointer pm], .slice ao (elsL t.list).length c, .agg #[.int .i64 K, .int .i64 s.1, .int .i64 s.2.1, .string s.2.2.1, .int .i64 s.2.2.2.1, .int .i64 s.2.2.2.2, .string X, .int .i64 nn]] w (DoE w t) := by
  obtain ⟨g, r, lb, n, ix⟩ := s
  dsimp only at hss ⊢
  obtain ⟨N, hN⟩ : ∃ N, N = (elsL t.list).length := ⟨_, rfl⟩
  rw [← hN]
  obtain ⟨w0, hw0⟩ : ∃ q, q = ((w.alloc (.cells #[.pointer pm] 27)).alloc (.cells #[.int .i64 K, .int .i64 g, .int .i64 r, .string lb, .int .i64 n, .int .i64 ix, .string X, .int .i64 nn] 92)).alloc (.cells #[.pointer none] 27) := ⟨_, rfl⟩
  obtain ⟨m0, m1, m2, b0⟩ := new4r w _ _ _ w0 hw0
  obtain ⟨Mb, hMb⟩ : ∃ q, q = w.heap.size := ⟨_, rfl⟩
  obtain ⟨Pb, hPb⟩ : ∃ q, q = w.heap.size + 1 := ⟨_, rfl⟩
  obtain ⟨Rb, hRb⟩ : ∃ q, q = w.heap.size + 1 + 1 := ⟨_, rfl⟩
  have s0 : w0.heap.size = w.heap.size + 3 := by rw [hw0]; simp
  rw [← hMb] at m0
  rw [← hPb] at m1
  rw [← hRb] at m2
  have HC : Hid (∀ W, Below w0.heap.size w0 W → W.cell? ⟨Mb, 0, none⟩ = some (.pointer pm) ∧ W.cell? ⟨Pb, 0, none⟩ = some (.int .i64 K) ∧ W.cell? ⟨Pb, 1, none⟩ = some (.int .i64 g) ∧ W.cell? ⟨Pb, 2, none⟩ = some (.int .i64 r) ∧ W.cell? ⟨Pb, 3, none⟩ = some (.string lb) ∧ W.cell? ⟨Pb, 4, none⟩ = some (.int .i64 n) ∧ W.cell? ⟨Pb, 5, none⟩ = some (.int .i64 ix) ∧ W.cell? ⟨Pb, 6, none⟩ = some (.string X) ∧ W.cell? ⟨Pb, 7, none⟩ = some (.int .i64 nn)) := hide (fun W hW => ⟨cell_stays ((cell_of_row _ _ 0 _ 27 (0, 0) m0).trans rfl) hW, cell_stays ((cell_of_row _ _ 0 _ 92 (0, 0) m1).trans rfl) hW, cell_stays ((cell_of_row _ _ 1 _ 92 (0, 0) m1).trans rfl) hW, cell_stays ((cell_of_row _ _ 2 _ 92 (0, 0) m1).trans rfl) hW, cell_stays ((cell_of_row _ _ 3 _ 92 (0, 0) m1).trans rfl) hW, cell_stays ((cell_of_row _ _ 4 _ 92 (0, 0) m1).trans rfl) hW, cell_stays ((cell_of_row _ _ 5 _ 92 (0, 0) m1).trans rfl) hW, cell_stays ((cell_of_row _ _ 6 _ 92 (0, 0) m1).trans rfl) hW, cell_stays ((cell_of_row _ _ 7 _ 92 (0, 0) m1).trans rfl) hW⟩)
  have HD : Hid (∀ W, Below w0.heap.size w0 W → W.heap[Rb]? = some (.cells #[.pointer none] 27 (0, 0)) ∧ Mg W t ∧ RQ W ao c (elsL t.list) ∧ Below w.heap.size w W) := hide (fun W hW => ⟨(hW.block _ (Array.getElem?_eq_some_iff.1 m2).1).trans m2, h.below (b0.trans (hW.mono b0.size)), hrq.below (b0.trans (hW.mono b0.size)), b0.trans (hW.mono b0.size)⟩)
  have HZ : Hid (Mb = w.heap.size ∧ Pb = w.heap.size + 1 ∧ Rb = w.heap.size + 2 ∧ w0.heap.size = w.heap.size + 3) := hide ⟨hMb, hPb, hRb, s0⟩
  have HW0 := hide (And.intro hw0 (And.intro hRb (And.intro hPb hMb)))
  have HT : Hid (N = (elsL t.list).length ∧ t.n < 399 ∧ t.ptr = .pointer pm ∧ mayL t.list = true) := hide ⟨hN, hn, hp, hm⟩
  have hNn : N = t.n := by rw [hN, elsL, if_pos hm, elsM, List.length_map, Pm.T.n_eq]
  have HNN := hide hNn
  obtain ⟨x0, y0, y1, y2, y3, y4, y5, y6, y7⟩ := HC.out w0 (Below.refl _ _)
  clear h hn hp hm hrq hN hw0 m0 m1 m2 b0 hMb hPb hRb s0 hNn
  by_cases k1 : K = 1
  · subst k1
    have hpu := fun W (hW : Below w0.heap.size w0 W) => pushP (g, r, lb, n, ix) X (HD.out W hW).2.1 (by have := HT.out; omega) HT.out.2.2.1
    have hfi := fun W => fits39 (g, r, lb, n, ix) X W hss
    have hbe := fun W (hW : Below w0.heap.size w0 W) => behind13 (c := c) (elsL t.list) (g, r, lb, n, ix) (HD.out W hW).2.2.1.re (by have := HT.out; have := HNN.out; omega) (fun x hx => els_size HT.out.2.2.2 hx)
    have hok := okWr_doc HT.out.2.2.2 (g, r, lb, n, ix) X
    rw [← HT.out.1] at hbe
    dsimp only [svT] at hpu hfi hbe
    cases hF : okWr t.list (g, r, lb, n, ix) X with
    | true =>
      rw [hF] at hok
      have hok1 : stV (g, r, lb, n, ix) = true ∧ txtB X = true ∧ behB (elsL t.list) (g, r, lb, n, ix) = true := by
        have := hok.symm
        simp only [Bool.and_eq_true] at this
        exact ⟨this.1.1, this.1.2, this.2⟩
      have hpu' : ∀ W, Below w0.heap.size w0 W → Calls Tryz.prog 70 #[.agg #[.pointer pm], .agg #[.int .i64 g, .int .i64 r, .string lb, .int .i64 n, .int .i64 ix], .string X] W fun e w' => ∃ t1 p1, t1.ptr = .pointer p1 ∧ e = .returned (.tuple #[.agg #[.pointer p1], .int .i64 0]) ∧ Mg w' t1 ∧ t1.list = t.list ++ [(keyT (g, r, lb, n, ix), X)] ∧ Below W.heap.size W w' := fun W hW => (hpu W hW).mono (fun e w' hh => by
        obtain ⟨t1, p1, h1, h2, h3, h4, h5⟩ := hh
        rw [hF] at h2 h4
        exact ⟨t1, p1, h1, h2, h3, h4, h5⟩)
      have hnum := fun (W : World) => num35 0 W
      have HEP := hide (els_app HT.out.2.2.2 hok1.1 hok1.2.1)
      rw [hok1.1, hok1.2.1] at hfi
      rw [hok1.2.2] at hbe
      have hT : (true && true) = true := rfl
      rw [hT] at hfi
      clear hT
      clear hpu hok hF hok1
      go_enter Tryz.func66, Tryz.ntmps66
      go_upto_region 1 with fail
      rw [← HW0.out.1, ← HW0.out.2.1, ← HW0.out.2.2.1, ← HW0.out.2.2.2]
      go_upto_region 6 with (first | (go_at_call 70; refine (hpu' w0 (Below.refl _ _)).mono ?_; rintro e w1 ⟨t1, p1, hp1, rfl, mg1, hl1, b1⟩; have HB1 := hide (And.intro (b1.trans (((Below.refl _ w1).alloc (Nat.le_refl _) (.cells #[.pointer p1] 27)).mono b1.size)) (And.intro (heap_alloc_new w1 (.cells #[.pointer p1] 27)) b1.size)); have HM1 := hide (And.intro hp1 (And.intro hl1 (mg1.below ((Below.refl _ w1).alloc (Nat.le_refl _) (.cells #[.pointer p1] 27))))); have yy := HC.out _ HB1.out.1; obtain ⟨-, -, z1, z2, z3, z4, z5, z6, -⟩ := yy; clear b1 hp1 hl1 mg1; dsimp only) | (go_at_call 67; refine (hfi _).mono ?_; rintro e w2 ⟨rfl, b2⟩; have H2 := hide (And.intro (HB1.out.1.trans (b2.mono HB1.out.1.size)) b2); have yy := HC.out _ H2.out.1; obtain ⟨-, -, a1, a2, a3, a4, a5, a6, -⟩ := yy; clear b2; dsimp only) | (go_at_call 68; refine (hbe _ H2.out.1).mono ?_; rintro e w3 ⟨rfl, b3⟩; have H3 := hide (And.intro (H2.out.1.trans (b3.mono H2.out.1.size)) (H2.out.2.trans (b3.mono H2.out.2.size))); clear b3; dsimp only))
      obtain ⟨Bx, hBx⟩ : ∃ q, q = w1.heap.size := ⟨_, rfl⟩
      have hb0 := H3.out.1
      have hb1 := H3.out.2
      have r2 := HB1.out.2.1
      rw [← hBx] at r2 ⊢
      have HS6 : Hid (∀ W, Below w3.heap.size w3 W → W.cell? ⟨Bx, 0, none⟩ = some (.pointer p1) ∧ W.cell? ⟨Pb, 1, none⟩ = some (.int .i64 g) ∧ W.cell? ⟨Pb, 2, none⟩ = some (.int .i64 r) ∧ W.cell? ⟨Pb, 3, none⟩ = some (.string lb) ∧ W.cell? ⟨Pb, 4, none⟩ = some (.int .i64 n) ∧ W.cell? ⟨Pb, 5, none⟩ = some (.int .i64 ix) ∧ W.cell? ⟨Pb, 6, none⟩ = some (.string X)) := hide (fun W hW => by
        have yy := HC.out W (hb0.trans (hW.mono hb0.size))
        exact ⟨cell_stays ((cell_of_row _ _ 0 _ 27 (0, 0) r2).trans rfl) (hb1.trans (hW.mono hb1.size)), yy.2.2.1, yy.2.2.2.1, yy.2.2.2.2.1, yy.2.2.2.2.2.1, yy.2.2.2.2.2.2.1, yy.2.2.2.2.2.2.2.1⟩)
      have HR6 : Hid (∀ W, Below w3.heap.size w3 W → W.heap[Rb]? = some (.cells #[.pointer none] 27 (0, 0))) := hide (fun W hW => (HD.out W (hb0.trans (hW.mono hb0.size))).1)
      have HNE6 : Hid (Bx ≠ Rb ∧ Pb ≠ Rb) := hide (by have := HZ.out; have := HB1.out.2.2; exact ⟨by omega, by omega⟩)
      have HQ6 : Hid (∀ W, Below w3.heap.size w3 W → Mg W t1 ∧ Below w.heap.size w W) := hide (fun W hW => ⟨HM1.out.2.2.below (hb1.trans (hW.mono hb1.size)), (HD.out W (hb0.trans (hW.mono hb0.size))).2.2.2⟩)
      have hap1 : ∀ W, Below w3.heap.size w3 W → ∃ v9 w9, (Builtin.append_ #[22, 22] 22 #[.slice none 0 0, .slice ao N c]).run Tryz.prog W = .ok v9 w9 ∧ Oe w9 w3.heap.size v9 (elsL t.list) ∧ Below W.heap.size W w9 := fun W hW => by
        have hq := (HD.out W (hb0.trans (hW.mono hb0.size))).2.2.1
        obtain ⟨a', c', w', h1, h2, h3⟩ := app_elems (Oe.nil W W.heap.size) hq.nil hq.re (by simp; have := HT.out; have := HNN.out; omega) (Nat.le_refl _)
        rw [← HT.out.1] at h1
        exact ⟨_, w', h1, h2.lift hW.size, h3⟩
      have hap2 : ∀ (W : World) (v : Value) (R : Nat), Below w3.heap.size w3 W → Oe W w3.heap.size v (elsL t.list) → Re W (some ⟨R, 0, none⟩) [((g, r, lb, n, ix), X)] → ∃ a10 c10 w9, (Builtin.append_ #[22, 22] 22 #[v, .slice (some ⟨R, 0, none⟩) 1 1]).run Tryz.prog W = .ok (.slice a10 (elsL t.list ++ [((g, r, lb, n, ix), X)]).length c10) w9 ∧ RQ w9 a10 c10 (elsL t.list ++ [((g, r, lb, n, ix), X)]) ∧ Below w3.heap.size W w9 := fun W v R hW ho hr => by
        obtain ⟨a', c', w', h1, h2, h3⟩ := app_elems (c := 1) ho (by simp) hr (by simp; have := HT.out; have := HNN.out; omega) hW.size
        exact ⟨a', c', w', h1, RQ.of h2, h3⟩
      clear hb0 hb1 r2 hBx
      refine wp_region_held_drew (S := fun w' => w'.cell? ⟨Bx, 0, none⟩ = some (.pointer p1) ∧ w'.cell? ⟨Pb, 1, none⟩ = some (.int .i64 g) ∧ w'.cell? ⟨Pb, 2, none⟩ = some (.int .i64 r) ∧ w'.cell? ⟨Pb, 3, none⟩ = some (.string lb) ∧ w'.cell? ⟨Pb, 4, none⟩ = some (.int .i64 n) ∧ w'.cell? ⟨Pb, 5, none⟩ = some (.int .i64 ix) ∧ w'.cell? ⟨Pb, 6, none⟩ = some (.string X)) (by kernel_rfl) (by exact HS6.out _ (drew_below w3)) (fun hHeld => ?_)
      try dsimp only at hHeld
      have bW : Below w3.heap.size w3 w3.drew := drew_below w3
      generalize w3.drew = W1 at hHeld bW ⊢
      refine take_op (i := 0) (d := 53) (OP := Op.load 27 (Operand.tmp 9)) (T := 27) (v := ?vsy58) rfl rfl rfl rfl (by kernel_rfl) (by kernel_rfl) (by kernel_rfl) (fun _ _ _ h => h) (by rfl) ?hsy58 hHeld ?rsy58
      case hsy58 => (intro w' hSw; (try dsimp only at hSw); go_simp <;> with_reducible rfl)
      try simp only [Act.put, List.setIfInBounds_toArray, List.set_cons_zero, List.set_cons_succ]
      refine take_op (i := 1) (d := 54) (OP := Op.move (Operand.tmp 1)) (T := 22) (v := ?vsy59) rfl rfl rfl rfl (by kernel_rfl) (by kernel_rfl) (by kernel_rfl) (fun _ _ _ h => h) (by rfl) ?hsy59 hHeld ?rsy59
      case hsy59 => (intro w' hSw; (try dsimp only at hSw); go_simp <;> with_reducible rfl)
      try simp only [Act.put, List.setIfInBounds_toArray, List.set_cons_zero, List.set_cons_succ]
      refine take_op (i := 3) (d := 56) (OP := Op.fieldAddr 92 (Operand.tmp 5) 1) (T := 0) (v := ?vsy60) rfl rfl rfl rfl (by kernel_rfl) (by kernel_rfl) (by kernel_rfl) (fun _ _ _ h => h) (by rfl) ?hsy60 hHeld ?rsy60
      case hsy60 => (intro w' hSw; (try dsimp only at hSw); go_simp <;> with_reducible rfl)
      try simp only [Act.put, List.setIfInBounds_toArray, List.set_cons_zero, List.set_cons_succ]
      refine take_op (i := 4) (d := 57) (OP := Op.load 43 (Operand.tmp 56)) (T := 43) (v := ?vsy61) rfl rfl rfl rfl (by kernel_rfl) (by kernel_rfl) (by kernel_rfl) (fun _ _ _ h => h) (by rfl) ?hsy61 hHeld ?rsy61
      case hsy61 => (intro w' hSw; (try dsimp only at hSw); go_simp <;> with_reducible rfl)
      try simp only [Act.put, List.setIfInBounds_toArray, List.set_cons_zero, List.set_cons_succ]
      refine take_op (i := 5) (d := 58) (OP := Op.fieldAddr 92 (Operand.tmp 5) 2) (T := 0) (v := ?vsy62) rfl rfl rfl rfl (by kernel_rfl) (by kernel_rfl) (by kernel_rfl) (fun _ _ _ h => h) (by rfl) ?hsy62 hHeld ?rsy62
      case hsy62 => (intro w' hSw; (try dsimp only at hSw); go_simp <;> with_reducible rfl)
      try simp only [Act.put, List.setIfInBounds_toArray, List.set_cons_zero, List.set_cons_succ]
      refine take_op (i := 6) (d := 59) (OP := Op.load 9 (Operand.tmp 58)) (T := 9) (v := ?vsy63) rfl rfl rfl rfl (by kernel_rfl) (by kernel_rfl) (by kernel_rfl) (fun _ _ _ h => h) (by rfl) ?hsy63 hHeld ?rsy63
      case hsy63 => (intro w' hSw; (try dsimp only at hSw); go_simp <;> with_reducible rfl)
      try simp only [Act.put, List.setIfInBounds_toArray, List.set_cons_zero, List.set_cons_succ]
      refine take_op (i := 7) (d := 60) (OP := Op.build 53 #[(0, Operand.tmp 57), (1, Operand.tmp 59)]) (T := 53) (v := ?vsy64) rfl rfl rfl rfl (by kernel_rfl) (by kernel_rfl) (by kernel_rfl) (fun _ _ _ h => h) (by rfl) ?hsy64 hHeld ?rsy64
      case hsy64 => (intro w' hSw; (try dsimp only at hSw); go_simp <;> with_reducible rfl)
      try simp only [Act.put, List.setIfInBounds_toArray, List.set_cons_zero, List.set_cons_succ]
      refine take_op (i := 10) (d := 63) (OP := Op.move (Operand.tmp 10)) (T := 28) (v := ?vsy65) rfl rfl rfl rfl (by kernel_rfl) (by kernel_rfl) (by kernel_rfl) (fun _ _ _ h => h) (by rfl) ?hsy65 hHeld ?rsy65
      case hsy65 => (intro w' hSw; (try dsimp only at hSw); go_simp <;> with_reducible rfl)
      try simp only [Act.put, List.setIfInBounds_toArray, List.set_cons_zero, List.set_cons_succ]
      obtain ⟨v9, w9, run9, hO9, b9⟩ := hap1 W1 bW
      have bW9 : Below w3.heap.size w3 w9 := bW.trans (b9.mono bW.size)
      have bWl : Below w3.heap.size w3 (W1.alloc (.cells (encE ((g, r, lb, n, ix), X)).toArray 53)) := bW.alloc bW.size _
      refine turn2_op (i := 2) (di := 55) (OPi := Op.call { callee := Callee.builtin Builtin.append, args := #[Operand.const (Value.slice none 0 0), Operand.tmp 54], argTypes := #[22, 22] }) (Ti := 22) (j := 8) (dj := 61) (OPj := Op.buildSlice 22 1 #[(0, Operand.tmp 60)]) (Tj := 22) (v := v9) (wi := w9) (u := .slice (some ⟨W1.heap.size, 0, none⟩) 1 1) (wj := W1.alloc (.cells (encE ((g, r, lb, n, ix), X)).toArray 53)) rfl rfl rfl rfl rfl rfl rfl rfl (by kernel_rfl) (by rfl) (by rfl) (exec_append rfl rfl run9) (exec_bs53 rfl) (HS6.out _ bW9) (HS6.out _ bWl) ?_ ?_
      · try simp only [Act.put, List.setIfInBounds_toArray, List.set_cons_zero, List.set_cons_succ]
        have bW8 : Below w3.heap.size w3 (w9.alloc (.cells (encE ((g, r, lb, n, ix), X)).toArray 53)) := bW9.alloc bW9.size _
        replace hHeld := HS6.out _ bW9
        refine turn_op (i := 8) (d := 61) (OP := Op.buildSlice 22 1 #[(0, Operand.tmp 60)]) (T := 22) (v := .slice (some ⟨w9.heap.size, 0, none⟩) 1 1) (w' := w9.alloc (.cells (encE ((g, r, lb, n, ix), X)).toArray 53)) rfl rfl rfl rfl (by kernel_rfl) (by rfl) (exec_bs53 rfl) (HS6.out _ bW8) ?_
        replace hHeld := HS6.out _ bW8
        try simp only [Act.put, List.setIfInBounds_toArray, List.set_cons_zero, List.set_cons_succ]
        obtain ⟨a10, c10, w10, run10, hO10, b10⟩ := hap2 (w9.alloc (.cells (encE ((g, r, lb, n, ix), X)).toArray 53)) _ w9.heap.size bW8 (hO9.alloc (.cells (encE ((g, r, lb, n, ix), X)).toArray 53)) (one_re w9 ((g, r, lb, n, ix), X))
        have bW10 := bW8.trans b10
        refine turn_op (i := 9) (d := 62) (OP := Op.call { callee := Callee.builtin Builtin.append, args := #[Operand.tmp 55, Operand.tmp 61], argTypes := #[22, 22] }) (T := 22) (v := (.slice a10 (elsL t.list ++ [((g, r, lb, n, ix), X)]).length c10)) (w' := w10) rfl rfl rfl rfl (by kernel_rfl) (by rfl) (exec_append rfl rfl run10) (HS6.out _ bW10) ?_
        replace hHeld := HS6.out _ bW10
        try simp only [Act.put, List.setIfInBounds_toArray, List.set_cons_zero, List.set_cons_succ]
        refine call_op (i := 11) (d := 64) (OP := Op.call { callee := Callee.value (Operand.func 63), args := #[Operand.tmp 63], argTypes := #[28] }) (T := 3) (f := 63) (args := #[.int .i64 0]) rfl rfl rfl rfl (by kernel_rfl) (by rfl) (by go_simp) ?_
        refine (hnum w10).mono ?_
        rintro e w11 ⟨rfl, hw11⟩
        rw [hw11]
        clear hw11 w11
        refine ⟨_, rfl, hHeld, ?_⟩
        try simp only [Act.put, List.setIfInBounds_toArray, List.set_cons_zero, List.set_cons_succ]
        obtain ⟨u6, o6⟩ := set_one (i := 0) (.pointer p1) (HR6.out _ bW10)
        have hS6 : (w10.setCell ⟨Rb, 0, none⟩ (.pointer p1)).cell? ⟨Bx, 0, none⟩ = some (.pointer p1) ∧ (w10.setCell ⟨Rb, 0, none⟩ (.pointer p1)).cell? ⟨Pb, 1, none⟩ = some (.int .i64 g) ∧ (w10.setCell ⟨Rb, 0, none⟩ (.pointer p1)).cell? ⟨Pb, 2, none⟩ = some (.int .i64 r) ∧ (w10.setCell ⟨Rb, 0, none⟩ (.pointer p1)).cell? ⟨Pb, 3, none⟩ = some (.string lb) ∧ (w10.setCell ⟨Rb, 0, none⟩ (.pointer p1)).cell? ⟨Pb, 4, none⟩ = some (.int .i64 n) ∧ (w10.setCell ⟨Rb, 0, none⟩ (.pointer p1)).cell? ⟨Pb, 5, none⟩ = some (.int .i64 ix) ∧ (w10.setCell ⟨Rb, 0, none⟩ (.pointer p1)).cell? ⟨Pb, 6, none⟩ = some (.string X) := ⟨o6.cell hHeld.1 (by simp only; have := HNE6.out; omega), o6.cell hHeld.2.1 (by simp only; have := HNE6.out; omega), o6.cell hHeld.2.2.1 (by simp only; have := HNE6.out; omega), o6.cell hHeld.2.2.2.1 (by simp only; have := HNE6.out; omega), o6.cell hHeld.2.2.2.2.1 (by simp only; have := HNE6.out; omega), o6.cell hHeld.2.2.2.2.2.1 (by simp only; have := HNE6.out; omega), o6.cell hHeld.2.2.2.2.2.2 (by simp only; have := HNE6.out; omega)⟩
        refine take_op (i := 12) (d := 65) (OP := Op.binOp BinOp.eql 3 (Operand.tmp 64) (Operand.const (Value.int IntKind.i64 0)) 3) (T := 4) (v := ?vsy66) rfl rfl rfl rfl (by kernel_rfl) (by kernel_rfl) (by kernel_rfl) (fun _ _ _ h => h) (by rfl) ?hsy66 hHeld ?rsy66
        case hsy66 => (intro w' hSw; (try dsimp only at hSw); go_simp <;> with_reducible rfl)
        try simp only [Act.put, List.setIfInBounds_toArray, List.set_cons_zero, List.set_cons_succ]
        refine skip_op (i := 13) (OP := Op.store 27 (Operand.tmp 6) (Operand.tmp 53)) (T := 0) (w' := w10.setCell ⟨Rb, 0, none⟩ (.pointer p1)) rfl rfl rfl rfl (by kernel_rfl) (by rfl) (exec_st27 rfl rfl ((cell_of_row _ _ 0 _ 27 (0, 0) (HR6.out _ bW10)).trans rfl) (frozen_of_row _ _ 0 _ 27 (HR6.out _ bW10))) ⟨hS6, ?_⟩
        try simp only [Act.put, List.setIfInBounds_toArray, List.set_cons_zero, List.set_cons_succ]
        replace hHeld := hS6
        clear hS6
        refine take_op (i := 14) (d := 7) (OP := Op.assign (Operand.tmp 62)) (T := 22) (v := ?vsy67) rfl rfl rfl rfl (by kernel_rfl) (by kernel_rfl) (by kernel_rfl) (fun _ _ _ h => h) (by rfl) ?hsy67 hHeld ?rsy67
        case hsy67 => (intro w' hSw; (try dsimp only at hSw); go_simp <;> with_reducible rfl)
        try simp only [Act.put, List.setIfInBounds_toArray, List.set_cons_zero, List.set_cons_succ]
        refine take_op (i := 15) (d := 8) (OP := Op.assign (Operand.tmp 65)) (T := 4) (v := ?vsy68) rfl rfl rfl rfl (by kernel_rfl) (by kernel_rfl) (by kernel_rfl) (fun _ _ _ h => h) (by rfl) ?hsy68 hHeld ?rsy68
        case hsy68 => (intro w' hSw; (try dsimp only at hSw); go_simp <;> with_reducible rfl)
        try simp only [Act.put, List.setIfInBounds_toArray, List.set_cons_zero, List.set_cons_succ]
        refine wpAnyH_done (by kernel_rfl) ?_ _
        have HE := hide (And.intro u6 (And.intro (Below.only (HQ6.out _ bW10).2 o6 (HQ6.out _ bW10).2.size (fun j e => by have := HZ.out; have e' : j = Rb := e; omega)) (And.intro ((HQ6.out _ bW10).1.aside (HR6.out _ bW10) o6) (hO10.aside (HR6.out _ bW10) o6))))
        clear u6 o6 hHeld bW10 hO10 run10 b10 hap1 hap2 hO9 run9
        go_wp2
        refine ret_row_tt Rb [.pointer p1] rfl rfl rfl rfl Tryz.underlying27 rfl T27 (by simpa using HE.out.1) rfl ?_
        exact ⟨t1, p1, a10, c10, HM1.out.1, by rw [HM1.out.2.1, HEP.out.2, List.length_append]; rfl, HE.out.2.2.1, by rw [HM1.out.2.1]; exact HEP.out.1, by rw [HM1.out.2.1, HEP.out.2]; exact HE.out.2.2.2, by rw [← Pm.T.n_eq, ← Pm.T.n_eq, HM1.out.2.1, List.length_append]; exact Nat.le_refl _, HE.out.2.1⟩
      · try simp only [Act.put, List.setIfInBounds_toArray, List.set_cons_zero, List.set_cons_succ]
        clear run9 hO9 b9 bW9 v9 w9
        replace hHeld := HS6.out _ bWl
        obtain ⟨v9, w9, run9, hO9, b9⟩ := hap1 _ bWl
        have bW9 : Below w3.heap.size w3 w9 := bWl.trans (b9.mono bWl.size)
        refine turn_op (i := 2) (d := 55) (OP := Op.call { callee := Callee.builtin Builtin.append, args := #[Operand.const (Value.slice none 0 0), Operand.tmp 54], argTypes := #[22, 22] }) (T := 22) (v := v9) (w' := w9) rfl rfl rfl rfl (by kernel_rfl) (by rfl) (exec_append rfl rfl run9) (HS6.out _ bW9) ?_
        replace hHeld := HS6.out _ bW9
        try simp only [Act.put, List.setIfInBounds_toArray, List.set_cons_zero, List.set_cons_succ]
        obtain ⟨a10, c10, w10, run10, hO10, b10⟩ := hap2 w9 _ W1.heap.size bW9 hO9 ((one_re W1 ((g, r, lb, n, ix), X)).below b9)
        have bW10 := bW9.trans b10
        refine turn_op (i := 9) (d := 62) (OP := Op.call { callee := Callee.builtin Builtin.append, args := #[Operand.tmp 55, Operand.tmp 61], argTypes := #[22, 22] }) (T := 22) (v := (.slice a10 (elsL t.list ++ [((g, r, lb, n, ix), X)]).length c10)) (w' := w10) rfl rfl rfl rfl (by kernel_rfl) (by rfl) (exec_append rfl rfl run10) (HS6.out _ bW10) ?_
        replace hHeld := HS6.out _ bW10
        try simp only [Act.put, List.setIfInBounds_toArray, List.set_cons_zero, List.set_cons_succ]
        refine call_op (i := 11) (d := 64) (OP := Op.call { callee := Callee.value (Operand.func 63), args := #[Operand.tmp 63], argTypes := #[28] }) (T := 3) (f := 63) (args := #[.int .i64 0]) rfl rfl rfl rfl (by kernel_rfl) (by rfl) (by go_simp) ?_
        refine (hnum w10).mono ?_
        rintro e w11 ⟨rfl, hw11⟩
        rw [hw11]
        clear hw11 w11
        refine ⟨_, rfl, hHeld, ?_⟩
        try simp only [Act.put, List.setIfInBounds_toArray, List.set_cons_zero, List.set_cons_succ]
        obtain ⟨u6, o6⟩ := set_one (i := 0) (.pointer p1) (HR6.out _ bW10)
        have hS6 : (w10.setCell ⟨Rb, 0, none⟩ (.pointer p1)).cell? ⟨Bx, 0, none⟩ = some (.pointer p1) ∧ (w10.setCell ⟨Rb, 0, none⟩ (.pointer p1)).cell? ⟨Pb, 1, none⟩ = some (.int .i64 g) ∧ (w10.setCell ⟨Rb, 0, none⟩ (.pointer p1)).cell? ⟨Pb, 2, none⟩ = some (.int .i64 r) ∧ (w10.setCell ⟨Rb, 0, none⟩ (.pointer p1)).cell? ⟨Pb, 3, none⟩ = some (.string lb) ∧ (w10.setCell ⟨Rb, 0, none⟩ (.pointer p1)).cell? ⟨Pb, 4, none⟩ = some (.int .i64 n) ∧ (w10.setCell ⟨Rb, 0, none⟩ (.pointer p1)).cell? ⟨Pb, 5, none⟩ = some (.int .i64 ix) ∧ (w10.setCell ⟨Rb, 0, none⟩ (.pointer p1)).cell? ⟨Pb, 6, none⟩ = some (.string X) := ⟨o6.cell hHeld.1 (by simp only; have := HNE6.out; omega), o6.cell hHeld.2.1 (by simp only; have := HNE6.out; omega), o6.cell hHeld.2.2.1 (by simp only; have := HNE6.out; omega), o6.cell hHeld.2.2.2.1 (by simp only; have := HNE6.out; omega), o6.cell hHeld.2.2.2.2.1 (by simp only; have := HNE6.out; omega), o6.cell hHeld.2.2.2.2.2.1 (by simp only; have := HNE6.out; omega), o6.cell hHeld.2.2.2.2.2.2 (by simp only; have := HNE6.out; omega)⟩
        refine take_op (i := 12) (d := 65) (OP := Op.binOp BinOp.eql 3 (Operand.tmp 64) (Operand.const (Value.int IntKind.i64 0)) 3) (T := 4) (v := ?vsy69) rfl rfl rfl rfl (by kernel_rfl) (by kernel_rfl) (by kernel_rfl) (fun _ _ _ h => h) (by rfl) ?hsy69 hHeld ?rsy69
        case hsy69 => (intro w' hSw; (try dsimp only at hSw); go_simp <;> with_reducible rfl)
        try simp only [Act.put, List.setIfInBounds_toArray, List.set_cons_zero, List.set_cons_succ]
        refine skip_op (i := 13) (OP := Op.store 27 (Operand.tmp 6) (Operand.tmp 53)) (T := 0) (w' := w10.setCell ⟨Rb, 0, none⟩ (.pointer p1)) rfl rfl rfl rfl (by kernel_rfl) (by rfl) (exec_st27 rfl rfl ((cell_of_row _ _ 0 _ 27 (0, 0) (HR6.out _ bW10)).trans rfl) (frozen_of_row _ _ 0 _ 27 (HR6.out _ bW10))) ⟨hS6, ?_⟩
        try simp only [Act.put, List.setIfInBounds_toArray, List.set_cons_zero, List.set_cons_succ]
        replace hHeld := hS6
        clear hS6
        refine take_op (i := 14) (d := 7) (OP := Op.assign (Operand.tmp 62)) (T := 22) (v := ?vsy70) rfl rfl rfl rfl (by kernel_rfl) (by kernel_rfl) (by kernel_rfl) (fun _ _ _ h => h) (by rfl) ?hsy70 hHeld ?rsy70
        case hsy70 => (intro w' hSw; (try dsimp only at hSw); go_simp <;> with_reducible rfl)
        try simp only [Act.put, List.setIfInBounds_toArray, List.set_cons_zero, List.set_cons_succ]
        refine take_op (i := 15) (d := 8) (OP := Op.assign (Operand.tmp 65)) (T := 4) (v := ?vsy71) rfl rfl rfl rfl (by kernel_rfl) (by kernel_rfl) (by kernel_rfl) (fun _ _ _ h => h) (by rfl) ?hsy71 hHeld ?rsy71
        case hsy71 => (intro w' hSw; (try dsimp only at hSw); go_simp <;> with_reducible rfl)
        try simp only [Act.put, List.setIfInBounds_toArray, List.set_cons_zero, List.set_cons_succ]
        refine wpAnyH_done (by kernel_rfl) ?_ _
        have HE := hide (And.intro u6 (And.intro (Below.only (HQ6.out _ bW10).2 o6 (HQ6.out _ bW10).2.size (fun j e => by have := HZ.out; have e' : j = Rb := e; omega)) (And.intro ((HQ6.out _ bW10).1.aside (HR6.out _ bW10) o6) (hO10.aside (HR6.out _ bW10) o6))))
        clear u6 o6 hHeld bW10 hO10 run10 b10 hap1 hap2 hO9 run9
        go_wp2
        refine ret_row_tt Rb [.pointer p1] rfl rfl rfl rfl Tryz.underlying27 rfl T27 (by simpa using HE.out.1) rfl ?_
        exact ⟨t1, p1, a10, c10, HM1.out.1, by rw [HM1.out.2.1, HEP.out.2, List.length_append]; rfl, HE.out.2.2.1, by rw [HM1.out.2.1]; exact HEP.out.1, by rw [HM1.out.2.1, HEP.out.2]; exact HE.out.2.2.2, by rw [← Pm.T.n_eq, ← Pm.T.n_eq, HM1.out.2.1, List.length_append]; exact Nat.le_refl _, HE.out.2.1⟩
    | false =>
      rw [hF] at hok
      have hpu' : ∀ W, Below w0.heap.size w0 W → Calls Tryz.prog 70 #[.agg #[.pointer pm], .agg #[.int .i64 g, .int .i64 r, .string lb, .int .i64 n, .int .i64 ix], .string X] W fun e w' => e = .returned (.tuple #[.agg #[.pointer none], .int .i64 2]) ∧ Below W.heap.size W w' := fun W hW => (hpu W hW).mono (fun e w' hh => by
        obtain ⟨t1, p1, h1, h2, h3, h4, h5⟩ := hh
        rw [hF] at h2 h4
        have h6 : t1 = .nil := by
          cases t1 with
          | nil => rfl
          | node => simp [Pm.T.list] at h4
        subst h6
        cases h1
        exact ⟨h2, h5⟩)
      have hnum := fun (W : World) => num35 2 W
      have hlen0 := fun (W : World) (hW : Below w0.heap.size w0 W) => lenQ (t := .nil) (pt := none) (Mg.nil W) rfl
      clear hpu
      cases hG : (stV (g, r, lb, n, ix) && txtB X) with
      | false =>
        rw [hG] at hfi
        clear hok hF hG hbe
        go_enter Tryz.func66, Tryz.ntmps66
        go_upto_region 1 with fail
        rw [← HW0.out.1, ← HW0.out.2.1, ← HW0.out.2.2.1, ← HW0.out.2.2.2]
        go_upto_region 5 with (first | (go_at_call 70; refine (hpu' w0 (Below.refl _ _)).mono ?_; rintro e w1 ⟨rfl, b1⟩; have HB1 := hide (And.intro (b1.trans (((Below.refl _ w1).alloc (Nat.le_refl _) (.cells #[.pointer none] 27)).mono b1.size)) (And.intro (heap_alloc_new w1 (.cells #[.pointer none] 27)) b1.size)); have yy := HC.out _ HB1.out.1; obtain ⟨-, -, z1, z2, z3, z4, z5, z6, -⟩ := yy; clear b1; dsimp only) | (go_at_call 67; refine (hfi _).mono ?_; rintro e w2 ⟨rfl, b2⟩; have H2 := hide (And.intro (HB1.out.1.trans (b2.mono HB1.out.1.size)) b2); have yy := HC.out _ H2.out.1; obtain ⟨-, -, a1, a2, a3, a4, a5, a6, -⟩ := yy; clear b2; dsimp only))
        obtain ⟨Bx, hBx⟩ : ∃ q, q = w1.heap.size := ⟨_, rfl⟩
        have hb0 := H2.out.1
        have hb1 := H2.out.2
        have r2 := HB1.out.2.1
        rw [← hBx] at r2 ⊢
        have HS5 : Hid (∀ W, Below w2.heap.size w2 W → W.cell? ⟨Mb, 0, none⟩ = some (.pointer pm) ∧ W.cell? ⟨Bx, 0, none⟩ = some (.pointer none)) := hide (fun W hW => ⟨(HC.out W (hb0.trans (hW.mono hb0.size))).1, cell_stays ((cell_of_row _ _ 0 _ 27 (0, 0) r2).trans rfl) (hb1.trans (hW.mono hb1.size))⟩)
        have HR5 : Hid (∀ W, Below w2.heap.size w2 W → W.heap[Rb]? = some (.cells #[.pointer none] 27 (0, 0))) := hide (fun W hW => (HD.out W (hb0.trans (hW.mono hb0.size))).1)
        have HNE5 : Hid (Mb ≠ Rb ∧ Bx ≠ Rb) := hide (by have := HZ.out; have := HB1.out.2.2; exact ⟨by omega, by omega⟩)
        have HQ5 : Hid (∀ W, Below w2.heap.size w2 W → Mg W t ∧ RQ W ao c (elsL t.list) ∧ Below w.heap.size w W) := hide (fun W hW => (HD.out W (hb0.trans (hW.mono hb0.size))).2)
        have HNU : Hid (∀ W, Below w2.heap.size w2 W → Calls Tryz.prog 63 #[.int .i64 2] W fun e w' => e = .returned (.int .i64 2) ∧ Below W.heap.size W w') := hide (fun W hW => (hnum W).mono (fun e w' hh => ⟨hh.1, by rw [hh.2]; exact Below.refl _ _⟩))
        have HLN : Hid (∀ W, Below w2.heap.size w2 W → Calls Tryz.prog 21 #[.agg #[.pointer none]] W fun e w' => e = .returned (.int .i64 0) ∧ Below W.heap.size W w') := hide (fun W hW => hlen0 W (hb0.trans (hW.mono hb0.size)))
        clear hb0 hb1 r2 hBx hnum hlen0
        refine wp_region_held_drew (S := fun w' => w'.cell? ⟨Mb, 0, none⟩ = some (.pointer pm) ∧ w'.cell? ⟨Bx, 0, none⟩ = some (.pointer none)) (by kernel_rfl) (by exact HS5.out _ (drew_below w2)) (fun hHeld => ?_)
        try dsimp only at hHeld
        have bW : Below w2.heap.size w2 w2.drew := drew_below w2
        generalize w2.drew = Wd at hHeld bW ⊢
        refine take_op (i := 0) (d := 43) (OP := Op.load 27 (Operand.tmp 3)) (T := 27) (v := ?vzd29) rfl rfl rfl rfl (by kernel_rfl) (by kernel_rfl) (by kernel_rfl) (fun _ _ _ h => h) (by rfl) ?hzd29 hHeld ?rzd29
        case hzd29 => (intro w' hSw; (try dsimp only at hSw); go_simp <;> with_reducible rfl)
        try simp only [Act.put, List.setIfInBounds_toArray, List.set_cons_zero, List.set_cons_succ]
        refine take_op (i := 1) (d := 44) (OP := Op.move (Operand.tmp 1)) (T := 22) (v := ?vzd30) rfl rfl rfl rfl (by kernel_rfl) (by kernel_rfl) (by kernel_rfl) (fun _ _ _ h => h) (by rfl) ?hzd30 hHeld ?rzd30
        case hzd30 => (intro w' hSw; (try dsimp only at hSw); go_simp <;> with_reducible rfl)
        try simp only [Act.put, List.setIfInBounds_toArray, List.set_cons_zero, List.set_cons_succ]
        refine take_op (i := 2) (d := 45) (OP := Op.move (Operand.tmp 10)) (T := 28) (v := ?vzd31) rfl rfl rfl rfl (by kernel_rfl) (by kernel_rfl) (by kernel_rfl) (fun _ _ _ h => h) (by rfl) ?hzd31 hHeld ?rzd31
        case hzd31 => (intro w' hSw; (try dsimp only at hSw); go_simp <;> with_reducible rfl)
        try simp only [Act.put, List.setIfInBounds_toArray, List.set_cons_zero, List.set_cons_succ]
        refine call_op (i := 3) (d := 46) (OP := Op.call { callee := Callee.value (Operand.func 63), args := #[Operand.tmp 45], argTypes := #[28] }) (T := 3) (f := 63) (args := #[.int .i64 2]) rfl rfl rfl rfl (by kernel_rfl) (by rfl) (by go_simp) ?_
        refine (HNU.out _ bW).mono ?_
        rintro e zc3 ⟨rfl, bzc3⟩
        have qzc3 : zc3.cell? ⟨Mb, 0, none⟩ = some (.pointer pm) ∧ zc3.cell? ⟨Bx, 0, none⟩ = some (.pointer none) := ⟨cell_stays hHeld.1 bzc3, cell_stays hHeld.2 bzc3⟩
        refine ⟨_, rfl, qzc3, ?_⟩
        replace hHeld := qzc3
        replace bW := bW.trans (bzc3.mono bW.size)
        clear qzc3 bzc3
        try simp only [Act.put, List.setIfInBounds_toArray, List.set_cons_zero, List.set_cons_succ]
        refine take_op (i := 4) (d := 47) (OP := Op.binOp BinOp.eql 3 (Operand.tmp 46) (Operand.const (Value.int IntKind.i64 2)) 3) (T := 4) (v := ?vzd32) rfl rfl rfl rfl (by kernel_rfl) (by kernel_rfl) (by kernel_rfl) (fun _ _ _ h => h) (by rfl) ?hzd32 hHeld ?rzd32
        case hzd32 => (intro w' hSw; (try dsimp only at hSw); go_simp <;> with_reducible rfl)
        try simp only [Act.put, List.setIfInBounds_toArray, List.set_cons_zero, List.set_cons_succ]
        refine take_op (i := 5) (d := 48) (OP := Op.move (Operand.tmp 47)) (T := 4) (v := ?vzd33) rfl rfl rfl rfl (by kernel_rfl) (by kernel_rfl) (by kernel_rfl) (fun _ _ _ h => h) (by rfl) ?hzd33 hHeld ?rzd33
        case hzd33 => (intro w' hSw; (try dsimp only at hSw); go_simp <;> with_reducible rfl)
        try simp only [Act.put, List.setIfInBounds_toArray, List.set_cons_zero, List.set_cons_succ]
        refine take_op (i := 6) (d := 49) (OP := Op.load 27 (Operand.tmp 9)) (T := 27) (v := ?vzd34) rfl rfl rfl rfl (by kernel_rfl) (by kernel_rfl) (by kernel_rfl) (fun _ _ _ h => h) (by rfl) ?hzd34 hHeld ?rzd34
        case hzd34 => (intro w' hSw; (try dsimp only at hSw); go_simp <;> with_reducible rfl)
        try simp only [Act.put, List.setIfInBounds_toArray, List.set_cons_zero, List.set_cons_succ]
        refine call_op (i := 7) (d := 50) (OP := Op.call { callee := Callee.value (Operand.func 21), args := #[Operand.tmp 49], argTypes := #[27] }) (T := 3) (f := 21) (args := #[.agg #[.pointer none]]) rfl rfl rfl rfl (by kernel_rfl) (by rfl) (by go_simp) ?_
        refine (HLN.out _ bW).mono ?_
        rintro e zc7 ⟨rfl, bzc7⟩
        have qzc7 : zc7.cell? ⟨Mb, 0, none⟩ = some (.pointer pm) ∧ zc7.cell? ⟨Bx, 0, none⟩ = some (.pointer none) := ⟨cell_stays hHeld.1 bzc7, cell_stays hHeld.2 bzc7⟩
        refine ⟨_, rfl, qzc7, ?_⟩
        replace hHeld := qzc7
        replace bW := bW.trans (bzc7.mono bW.size)
        clear qzc7 bzc7
        try simp only [Act.put, List.setIfInBounds_toArray, List.set_cons_zero, List.set_cons_succ]
        refine take_op (i := 8) (d := 51) (OP := Op.binOp BinOp.eql 3 (Operand.tmp 50) (Operand.const (Value.int IntKind.i64 0)) 3) (T := 4) (v := ?vzd35) rfl rfl rfl rfl (by kernel_rfl) (by kernel_rfl) (by kernel_rfl) (fun _ _ _ h => h) (by rfl) ?hzd35 hHeld ?rzd35
        case hzd35 => (intro w' hSw; (try dsimp only at hSw); go_simp <;> with_reducible rfl)
        try simp only [Act.put, List.setIfInBounds_toArray, List.set_cons_zero, List.set_cons_succ]
        refine take_op (i := 9) (d := 52) (OP := Op.pick (Operand.tmp 48) (Operand.tmp 51) (Operand.const (Value.bool false))) (T := 4) (v := ?vzd36) rfl rfl rfl rfl (by kernel_rfl) (by kernel_rfl) (by kernel_rfl) (fun _ _ _ h => h) (by rfl) ?hzd36 hHeld ?rzd36
        case hzd36 => (intro w' hSw; (try dsimp only at hSw); go_simp <;> with_reducible rfl)
        try simp only [Act.put, List.setIfInBounds_toArray, List.set_cons_zero, List.set_cons_succ]
        obtain ⟨u6, o6⟩ := set_one (i := 0) (.pointer pm) (HR5.out _ bW)
        have hS6 : (zc7.setCell ⟨Rb, 0, none⟩ (.pointer pm)).cell? ⟨Mb, 0, none⟩ = some (.pointer pm) ∧ (zc7.setCell ⟨Rb, 0, none⟩ (.pointer pm)).cell? ⟨Bx, 0, none⟩ = some (.pointer none) := ⟨o6.cell hHeld.1 (by simp only; have := HNE5.out; omega), o6.cell hHeld.2 (by simp only; have := HNE5.out; omega)⟩
        refine skip_op (i := 10) (OP := Op.store 27 (Operand.tmp 6) (Operand.tmp 43)) (T := 0) (w' := zc7.setCell ⟨Rb, 0, none⟩ (.pointer pm)) rfl rfl rfl rfl (by kernel_rfl) (by rfl) (exec_st27 rfl rfl ((cell_of_row _ _ 0 _ 27 (0, 0) (HR5.out _ bW)).trans rfl) (frozen_of_row _ _ 0 _ 27 (HR5.out _ bW))) ⟨hS6, ?_⟩
        try simp only [Act.put, List.setIfInBounds_toArray, List.set_cons_zero, List.set_cons_succ]
        replace hHeld := hS6
        clear hS6
        refine take_op (i := 11) (d := 7) (OP := Op.assign (Operand.tmp 44)) (T := 22) (v := ?vzd37) rfl rfl rfl rfl (by kernel_rfl) (by kernel_rfl) (by kernel_rfl) (fun _ _ _ h => h) (by rfl) ?hzd37 hHeld ?rzd37
        case hzd37 => (intro w' hSw; (try dsimp only at hSw); go_simp <;> with_reducible rfl)
        try simp only [Act.put, List.setIfInBounds_toArray, List.set_cons_zero, List.set_cons_succ]
        refine take_op (i := 12) (d := 8) (OP := Op.assign (Operand.tmp 52)) (T := 4) (v := ?vzd38) rfl rfl rfl rfl (by kernel_rfl) (by kernel_rfl) (by kernel_rfl) (fun _ _ _ h => h) (by rfl) ?hzd38 hHeld ?rzd38
        case hzd38 => (intro w' hSw; (try dsimp only at hSw); go_simp <;> with_reducible rfl)
        try simp only [Act.put, List.setIfInBounds_toArray, List.set_cons_zero, List.set_cons_succ]
        refine wpAnyH_done (by kernel_rfl) ?_ _
        have HE := hide (And.intro u6 (And.intro (Below.only (HQ5.out _ bW).2.2 o6 (HQ5.out _ bW).2.2.size (fun j e => by have := HZ.out; have e' : j = Rb := e; omega)) (And.intro ((HQ5.out _ bW).1.aside (HR5.out _ bW) o6) ((HQ5.out _ bW).2.1.aside (HR5.out _ bW) o6))))
        clear u6 o6 hHeld bW
        go_wp2
        refine ret_row_tt Rb [.pointer pm] rfl rfl rfl rfl Tryz.underlying27 rfl T27 (by simpa using HE.out.1) rfl ?_
        exact ⟨t, pm, ao, c, HT.out.2.2.1, by rw [← HT.out.1]; rfl, HE.out.2.2.1, HT.out.2.2.2, HE.out.2.2.2, Nat.le_succ _, HE.out.2.1⟩
      | true =>
        rw [hG, Bool.true_and] at hok
        rw [hG] at hfi
        rw [← hok] at hbe
        clear hok hF hG
        go_enter Tryz.func66, Tryz.ntmps66
        go_upto_region 1 with fail
        rw [← HW0.out.1, ← HW0.out.2.1, ← HW0.out.2.2.1, ← HW0.out.2.2.2]
        go_upto_region 5 with (first | (go_at_call 70; refine (hpu' w0 (Below.refl _ _)).mono ?_; rintro e w1 ⟨rfl, b1⟩; have HB1 := hide (And.intro (b1.trans (((Below.refl _ w1).alloc (Nat.le_refl _) (.cells #[.pointer none] 27)).mono b1.size)) (And.intro (heap_alloc_new w1 (.cells #[.pointer none] 27)) b1.size)); have yy := HC.out _ HB1.out.1; obtain ⟨-, -, z1, z2, z3, z4, z5, z6, -⟩ := yy; clear b1; dsimp only) | (go_at_call 67; refine (hfi _).mono ?_; rintro e w2 ⟨rfl, b2⟩; have H2 := hide (And.intro (HB1.out.1.trans (b2.mono HB1.out.1.size)) b2); have yy := HC.out _ H2.out.1; obtain ⟨-, -, a1, a2, a3, a4, a5, a6, -⟩ := yy; clear b2; dsimp only) | (go_at_call 68; refine (hbe _ H2.out.1).mono ?_; rintro e w3 ⟨rfl, b3⟩; have H3 := hide (And.intro (H2.out.1.trans (b3.mono H2.out.1.size)) (H2.out.2.trans (b3.mono H2.out.2.size))); clear b3; dsimp only))
        obtain ⟨Bx, hBx⟩ : ∃ q, q = w1.heap.size := ⟨_, rfl⟩
        have hb0 := H3.out.1
        have hb1 := H3.out.2
        have r2 := HB1.out.2.1
        rw [← hBx] at r2 ⊢
        have HS5 : Hid (∀ W, Below w3.heap.size w3 W → W.cell? ⟨Mb, 0, none⟩ = some (.pointer pm) ∧ W.cell? ⟨Bx, 0, none⟩ = some (.pointer none)) := hide (fun W hW => ⟨(HC.out W (hb0.trans (hW.mono hb0.size))).1, cell_stays ((cell_of_row _ _ 0 _ 27 (0, 0) r2).trans rfl) (hb1.trans (hW.mono hb1.size))⟩)
        have HR5 : Hid (∀ W, Below w3.heap.size w3 W → W.heap[Rb]? = some (.cells #[.pointer none] 27 (0, 0))) := hide (fun W hW => (HD.out W (hb0.trans (hW.mono hb0.size))).1)
        have HNE5 : Hid (Mb ≠ Rb ∧ Bx ≠ Rb) := hide (by have := HZ.out; have := HB1.out.2.2; exact ⟨by omega, by omega⟩)
        have HQ5 : Hid (∀ W, Below w3.heap.size w3 W → Mg W t ∧ RQ W ao c (elsL t.list) ∧ Below w.heap.size w W) := hide (fun W hW => (HD.out W (hb0.trans (hW.mono hb0.size))).2)
        have HNU : Hid (∀ W, Below w3.heap.size w3 W → Calls Tryz.prog 63 #[.int .i64 2] W fun e w' => e = .returned (.int .i64 2) ∧ Below W.heap.size W w') := hide (fun W hW => (hnum W).mono (fun e w' hh => ⟨hh.1, by rw [hh.2]; exact Below.refl _ _⟩))
        have HLN : Hid (∀ W, Below w3.heap.size w3 W → Calls Tryz.prog 21 #[.agg #[.pointer none]] W fun e w' => e = .returned (.int .i64 0) ∧ Below W.heap.size W w') := hide (fun W hW => hlen0 W (hb0.trans (hW.mono hb0.size)))
        clear hb0 hb1 r2 hBx hnum hlen0
        refine wp_region_held_drew (S := fun w' => w'.cell? ⟨Mb, 0, none⟩ = some (.pointer pm) ∧ w'.cell? ⟨Bx, 0, none⟩ = some (.pointer none)) (by kernel_rfl) (by exact HS5.out _ (drew_below w3)) (fun hHeld => ?_)
        try dsimp only at hHeld
        have bW : Below w3.heap.size w3 w3.drew := drew_below w3
        generalize w3.drew = Wd at hHeld bW ⊢
        refine take_op (i := 0) (d := 43) (OP := Op.load 27 (Operand.tmp 3)) (T := 27) (v := ?vzd39) rfl rfl rfl rfl (by kernel_rfl) (by kernel_rfl) (by kernel_rfl) (fun _ _ _ h => h) (by rfl) ?hzd39 hHeld ?rzd39
        case hzd39 => (intro w' hSw; (try dsimp only at hSw); go_simp <;> with_reducible rfl)
        try simp only [Act.put, List.setIfInBounds_toArray, List.set_cons_zero, List.set_cons_succ]
        refine take_op (i := 1) (d := 44) (OP := Op.move (Operand.tmp 1)) (T := 22) (v := ?vzd40) rfl rfl rfl rfl (by kernel_rfl) (by kernel_rfl) (by kernel_rfl) (fun _ _ _ h => h) (by rfl) ?hzd40 hHeld ?rzd40
        case hzd40 => (intro w' hSw; (try dsimp only at hSw); go_simp <;> with_reducible rfl)
        try simp only [Act.put, List.setIfInBounds_toArray, List.set_cons_zero, List.set_cons_succ]
        refine take_op (i := 2) (d := 45) (OP := Op.move (Operand.tmp 10)) (T := 28) (v := ?vzd41) rfl rfl rfl rfl (by kernel_rfl) (by kernel_rfl) (by kernel_rfl) (fun _ _ _ h => h) (by rfl) ?hzd41 hHeld ?rzd41
        case hzd41 => (intro w' hSw; (try dsimp only at hSw); go_simp <;> with_reducible rfl)
        try simp only [Act.put, List.setIfInBounds_toArray, List.set_cons_zero, List.set_cons_succ]
        refine call_op (i := 3) (d := 46) (OP := Op.call { callee := Callee.value (Operand.func 63), args := #[Operand.tmp 45], argTypes := #[28] }) (T := 3) (f := 63) (args := #[.int .i64 2]) rfl rfl rfl rfl (by kernel_rfl) (by rfl) (by go_simp) ?_
        refine (HNU.out _ bW).mono ?_
        rintro e zc3 ⟨rfl, bzc3⟩
        have qzc3 : zc3.cell? ⟨Mb, 0, none⟩ = some (.pointer pm) ∧ zc3.cell? ⟨Bx, 0, none⟩ = some (.pointer none) := ⟨cell_stays hHeld.1 bzc3, cell_stays hHeld.2 bzc3⟩
        refine ⟨_, rfl, qzc3, ?_⟩
        replace hHeld := qzc3
        replace bW := bW.trans (bzc3.mono bW.size)
        clear qzc3 bzc3
        try simp only [Act.put, List.setIfInBounds_toArray, List.set_cons_zero, List.set_cons_succ]
        refine take_op (i := 4) (d := 47) (OP := Op.binOp BinOp.eql 3 (Operand.tmp 46) (Operand.const (Value.int IntKind.i64 2)) 3) (T := 4) (v := ?vzd42) rfl rfl rfl rfl (by kernel_rfl) (by kernel_rfl) (by kernel_rfl) (fun _ _ _ h => h) (by rfl) ?hzd42 hHeld ?rzd42
        case hzd42 => (intro w' hSw; (try dsimp only at hSw); go_simp <;> with_reducible rfl)
        try simp only [Act.put, List.setIfInBounds_toArray, List.set_cons_zero, List.set_cons_succ]
        refine take_op (i := 5) (d := 48) (OP := Op.move (Operand.tmp 47)) (T := 4) (v := ?vzd43) rfl rfl rfl rfl (by kernel_rfl) (by kernel_rfl) (by kernel_rfl) (fun _ _ _ h => h) (by rfl) ?hzd43 hHeld ?rzd43
        case hzd43 => (intro w' hSw; (try dsimp only at hSw); go_simp <;> with_reducible rfl)
        try simp only [Act.put, List.setIfInBounds_toArray, List.set_cons_zero, List.set_cons_succ]
        refine take_op (i := 6) (d := 49) (OP := Op.load 27 (Operand.tmp 9)) (T := 27) (v := ?vzd44) rfl rfl rfl rfl (by kernel_rfl) (by kernel_rfl) (by kernel_rfl) (fun _ _ _ h => h) (by rfl) ?hzd44 hHeld ?rzd44
        case hzd44 => (intro w' hSw; (try dsimp only at hSw); go_simp <;> with_reducible rfl)
        try simp only [Act.put, List.setIfInBounds_toArray, List.set_cons_zero, List.set_cons_succ]
        refine call_op (i := 7) (d := 50) (OP := Op.call { callee := Callee.value (Operand.func 21), args := #[Operand.tmp 49], argTypes := #[27] }) (T := 3) (f := 21) (args := #[.agg #[.pointer none]]) rfl rfl rfl rfl (by kernel_rfl) (by rfl) (by go_simp) ?_
        refine (HLN.out _ bW).mono ?_
        rintro e zc7 ⟨rfl, bzc7⟩
        have qzc7 : zc7.cell? ⟨Mb, 0, none⟩ = some (.pointer pm) ∧ zc7.cell? ⟨Bx, 0, none⟩ = some (.pointer none) := ⟨cell_stays hHeld.1 bzc7, cell_stays hHeld.2 bzc7⟩
        refine ⟨_, rfl, qzc7, ?_⟩
        replace hHeld := qzc7
        replace bW := bW.trans (bzc7.mono bW.size)
        clear qzc7 bzc7
        try simp only [Act.put, List.setIfInBounds_toArray, List.set_cons_zero, List.set_cons_succ]
        refine take_op (i := 8) (d := 51) (OP := Op.binOp BinOp.eql 3 (Operand.tmp 50) (Operand.const (Value.int IntKind.i64 0)) 3) (T := 4) (v := ?vzd45) rfl rfl rfl rfl (by kernel_rfl) (by kernel_rfl) (by kernel_rfl) (fun _ _ _ h => h) (by rfl) ?hzd45 hHeld ?rzd45
        case hzd45 => (intro w' hSw; (try dsimp only at hSw); go_simp <;> with_reducible rfl)
        try simp only [Act.put, List.setIfInBounds_toArray, List.set_cons_zero, List.set_cons_succ]
        refine take_op (i := 9) (d := 52) (OP := Op.pick (Operand.tmp 48) (Operand.tmp 51) (Operand.const (Value.bool false))) (T := 4) (v := ?vzd46) rfl rfl rfl rfl (by kernel_rfl) (by kernel_rfl) (by kernel_rfl) (fun _ _ _ h => h) (by rfl) ?hzd46 hHeld ?rzd46
        case hzd46 => (intro w' hSw; (try dsimp only at hSw); go_simp <;> with_reducible rfl)
        try simp only [Act.put, List.setIfInBounds_toArray, List.set_cons_zero, List.set_cons_succ]
        obtain ⟨u6, o6⟩ := set_one (i := 0) (.pointer pm) (HR5.out _ bW)
        have hS6 : (zc7.setCell ⟨Rb, 0, none⟩ (.pointer pm)).cell? ⟨Mb, 0, none⟩ = some (.pointer pm) ∧ (zc7.setCell ⟨Rb, 0, none⟩ (.pointer pm)).cell? ⟨Bx, 0, none⟩ = some (.pointer none) := ⟨o6.cell hHeld.1 (by simp only; have := HNE5.out; omega), o6.cell hHeld.2 (by simp only; have := HNE5.out; omega)⟩
        refine skip_op (i := 10) (OP := Op.store 27 (Operand.tmp 6) (Operand.tmp 43)) (T := 0) (w' := zc7.setCell ⟨Rb, 0, none⟩ (.pointer pm)) rfl rfl rfl rfl (by kernel_rfl) (by rfl) (exec_st27 rfl rfl ((cell_of_row _ _ 0 _ 27 (0, 0) (HR5.out _ bW)).trans rfl) (frozen_of_row _ _ 0 _ 27 (HR5.out _ bW))) ⟨hS6, ?_⟩
        try simp only [Act.put, List.setIfInBounds_toArray, List.set_cons_zero, List.set_cons_succ]
        replace hHeld := hS6
        clear hS6
        refine take_op (i := 11) (d := 7) (OP := Op.assign (Operand.tmp 44)) (T := 22) (v := ?vzd47) rfl rfl rfl rfl (by kernel_rfl) (by kernel_rfl) (by kernel_rfl) (fun _ _ _ h => h) (by rfl) ?hzd47 hHeld ?rzd47
        case hzd47 => (intro w' hSw; (try dsimp only at hSw); go_simp <;> with_reducible rfl)
        try simp only [Act.put, List.setIfInBounds_toArray, List.set_cons_zero, List.set_cons_succ]
        refine take_op (i := 12) (d := 8) (OP := Op.assign (Operand.tmp 52)) (T := 4) (v := ?vzd48) rfl rfl rfl rfl (by kernel_rfl) (by kernel_rfl) (by kernel_rfl) (fun _ _ _ h => h) (by rfl) ?hzd48 hHeld ?rzd48
        case hzd48 => (intro w' hSw; (try dsimp only at hSw); go_simp <;> with_reducible rfl)
        try simp only [Act.put, List.setIfInBounds_toArray, List.set_cons_zero, List.set_cons_succ]
        refine wpAnyH_done (by kernel_rfl) ?_ _
        have HE := hide (And.intro u6 (And.intro (Below.only (HQ5.out _ bW).2.2 o6 (HQ5.out _ bW).2.2.size (fun j e => by have := HZ.out; have e' : j = Rb := e; omega)) (And.intro ((HQ5.out _ bW).1.aside (HR5.out _ bW) o6) ((HQ5.out _ bW).2.1.aside (HR5.out _ bW) o6))))
        clear u6 o6 hHeld bW
        go_wp2
        refine ret_row_tt Rb [.pointer pm] rfl rfl rfl rfl Tryz.underlying27 rfl T27 (by simpa using HE.out.1) rfl ?_
        exact ⟨t, pm, ao, c, HT.out.2.2.1, by rw [← HT.out.1]; rfl, HE.out.2.2.1, HT.out.2.2.2, HE.out.2.2.2, Nat.le_succ _, HE.out.2.1⟩
  · by_cases k2 : K = 2
    · subst k2
      clear k1
      have hpo := fun W (hW : Below w0.heap.size w0 W) => qPop_any (HD.out W hW).2.1 HT.out.2.2.1
      cases hl : elsL t.list with
      | nil =>
        have hpo' : ∀ W, Below w0.heap.size w0 W → Calls Tryz.prog 69 #[.agg #[.pointer pm]] W fun e w' => e = .returned (.tuple #[.agg #[.pointer pm], .agg #[.int .i64 0, .int .i64 0, .string ⟨#[]⟩, .int .i64 0, .int .i64 0, .string ⟨#[]⟩], .bool false]) ∧ Below W.heap.size W w' := fun W hW => (hpo W hW).mono (fun e w' hh => by
          obtain ⟨t1, p1, h1, h2, h3, h4, h6, h5⟩ := hh
          rw [hl] at h2 h6
          have h7 := h6 rfl
          subst h7
          rw [HT.out.2.2.1] at h1
          injection h1 with h1
          subst h1
          exact ⟨h2, h5⟩)
        have hN0 : N = 0 := by rw [HT.out.1, hl]; rfl
        have hsm := fun W (hW : Below w0.heap.size w0 W) => sameSelf (HD.out W hW).2.1 HT.out.2.2.1
        have heq := fun W => run_eq77 zE zE W
        rw [decide_eq_true rfl] at heq
        dsimp only [ev, zE] at heq
        subst hN0
        have HL := hide hl
        clear hpo hl
        go_enter Tryz.func66, Tryz.ntmps66
        go_upto_region 1 with fail
        rw [← HW0.out.1, ← HW0.out.2.1, ← HW0.out.2.2.1, ← HW0.out.2.2.2]
        go_upto_region 10 with (go_at_call 69; refine (hpo' w0 (Below.refl _ _)).mono ?_; rintro e w1 ⟨rfl, b1⟩; have H1 := hide b1; clear b1; dsimp only)
        obtain ⟨Bx, hBx⟩ : ∃ q, q = w1.heap.size := ⟨_, rfl⟩
        obtain ⟨Ex, hEx⟩ : ∃ q, q = w1.heap.size + 1 := ⟨_, rfl⟩
        obtain ⟨w2, hw2⟩ : ∃ q, q = (w1.alloc (.cells #[.pointer pm] 27)).alloc (.cells #[.int .i64 0, .int .i64 0, .string ⟨#[]⟩, .int .i64 0, .int .i64 0, .string ⟨#[]⟩] 53) := ⟨_, rfl⟩
        have b12 : Below w1.heap.size w1 w2 := by rw [hw2]; exact ((Below.refl _ w1).alloc (Nat.le_refl _) _).alloc (by simp) _
        obtain ⟨r2, r3⟩ := new2 w1 (.cells #[.pointer pm] 27) (.cells #[.int .i64 0, .int .i64 0, .string ⟨#[]⟩, .int .i64 0, .int .i64 0, .string ⟨#[]⟩] 53)
        rw [← hw2, ← hBx] at r2
        rw [← hw2, ← hEx] at r3
        rw [← hw2, ← hEx, ← hBx]
        have b02 : Below w0.heap.size w0 w2 := H1.out.trans (b12.mono H1.out.size)
        have HS10 : Hid (∀ W, Below w2.heap.size w2 W → W.cell? ⟨Mb, 0, none⟩ = some (.pointer pm) ∧ W.cell? ⟨Bx, 0, none⟩ = some (.pointer pm) ∧ W.cell? ⟨Ex, 0, none⟩ = some (.int .i64 0) ∧ W.cell? ⟨Ex, 1, none⟩ = some (.int .i64 0) ∧ W.cell? ⟨Ex, 2, none⟩ = some (.string ⟨#[]⟩) ∧ W.cell? ⟨Ex, 3, none⟩ = some (.int .i64 0) ∧ W.cell? ⟨Ex, 4, none⟩ = some (.int .i64 0) ∧ W.cell? ⟨Ex, 5, none⟩ = some (.string ⟨#[]⟩)) := hide (fun W hW => by
          have q := hW.block _ (Array.getElem?_eq_some_iff.1 r3).1 |>.trans r3
          have c6 := cells_of_enc q
          exact ⟨(HC.out W (b02.trans (hW.mono b02.size))).1, cell_stays ((cell_of_row _ _ 0 _ 27 (0, 0) r2).trans rfl) hW, c6⟩)
        have HR10 : Hid (∀ W, Below w2.heap.size w2 W → W.heap[Rb]? = some (.cells #[.pointer none] 27 (0, 0))) := hide (fun W hW => (HD.out W (b02.trans (hW.mono b02.size))).1)
        have HNE10 : Hid (Mb ≠ Rb ∧ Bx ≠ Rb ∧ Ex ≠ Rb) := hide (by have := HZ.out; have := H1.out.size; exact ⟨by omega, by omega, by omega⟩)
        have HQ10 : Hid (∀ W, Below w2.heap.size w2 W → Mg W t ∧ RQ W ao c (elsL t.list) ∧ Below w.heap.size w W) := hide (fun W hW => (HD.out W (b02.trans (hW.mono b02.size))).2)
        have HSM : Hid (∀ W, Below w2.heap.size w2 W → Calls Tryz.prog 79 #[.agg #[.pointer pm], .agg #[.pointer pm]] W fun e w' => e = .returned (.bool true) ∧ Below W.heap.size W w') := hide (fun W hW => hsm W (b02.trans (hW.mono b02.size)))
        clear hBx hEx hw2 b12 r2 r3 b02 hsm
        refine wp_region_held_drew (S := fun w' => w'.cell? ⟨Mb, 0, none⟩ = some (.pointer pm) ∧ w'.cell? ⟨Bx, 0, none⟩ = some (.pointer pm) ∧ w'.cell? ⟨Ex, 0, none⟩ = some (.int .i64 0) ∧ w'.cell? ⟨Ex, 1, none⟩ = some (.int .i64 0) ∧ w'.cell? ⟨Ex, 2, none⟩ = some (.string ⟨#[]⟩) ∧ w'.cell? ⟨Ex, 3, none⟩ = some (.int .i64 0) ∧ w'.cell? ⟨Ex, 4, none⟩ = some (.int .i64 0) ∧ w'.cell? ⟨Ex, 5, none⟩ = some (.string ⟨#[]⟩)) (by kernel_rfl) (by exact HS10.out _ (drew_below w2)) (fun hHeld => ?_)
        try dsimp only at hHeld
        have bW : Below w2.heap.size w2 w2.drew := drew_below w2
        generalize w2.drew = Wd at hHeld bW ⊢
        refine take_op (i := 0) (d := 77) (OP := Op.load 27 (Operand.tmp 3)) (T := 27) (v := ?vzd14) rfl rfl rfl rfl (by kernel_rfl) (by kernel_rfl) (by kernel_rfl) (fun _ _ _ h => h) (by rfl) ?hzd14 hHeld ?rzd14
        case hzd14 => (intro w' hSw; (try dsimp only at hSw); go_simp <;> with_reducible rfl)
        try simp only [Act.put, List.setIfInBounds_toArray, List.set_cons_zero, List.set_cons_succ]
        refine take_op (i := 1) (d := 78) (OP := Op.move (Operand.tmp 1)) (T := 22) (v := ?vzd15) rfl rfl rfl rfl (by kernel_rfl) (by kernel_rfl) (by kernel_rfl) (fun _ _ _ h => h) (by rfl) ?hzd15 hHeld ?rzd15
        case hzd15 => (intro w' hSw; (try dsimp only at hSw); go_simp <;> with_reducible rfl)
        try simp only [Act.put, List.setIfInBounds_toArray, List.set_cons_zero, List.set_cons_succ]
        refine take_op (i := 2) (d := 79) (OP := Op.load 53 (Operand.tmp 12)) (T := 53) (v := ?vzd16) rfl rfl rfl rfl (by kernel_rfl) (by kernel_rfl) (by kernel_rfl) (fun _ _ _ h => h) (by rfl) ?hzd16 hHeld ?rzd16
        case hzd16 => (intro w' hSw; (try dsimp only at hSw); go_simp <;> with_reducible rfl)
        try simp only [Act.put, List.setIfInBounds_toArray, List.set_cons_zero, List.set_cons_succ]
        refine take_op (i := 3) (d := 80) (OP := Op.build 53 #[]) (T := 53) (v := ?vzd17) rfl rfl rfl rfl (by kernel_rfl) (by kernel_rfl) (by kernel_rfl) (fun _ _ _ h => h) (by rfl) ?hzd17 hHeld ?rzd17
        case hzd17 => (intro w' hSw; (try dsimp only at hSw); go_simp <;> with_reducible rfl)
        try simp only [Act.put, List.setIfInBounds_toArray, List.set_cons_zero, List.set_cons_succ]
        refine take_op (i := 4) (d := 81) (OP := Op.binOp BinOp.eql 53 (Operand.tmp 79) (Operand.tmp 80) 53) (T := 4) (v := ?vzd18) rfl rfl rfl rfl (by kernel_rfl) (by kernel_rfl) (by kernel_rfl) (fun _ _ _ h => h) (by rfl) ?hzd18 hHeld ?rzd18
        case hzd18 => (intro w' hSw; (try dsimp only at hSw); go_simp <;> with_reducible rfl)
        try simp only [Act.put, List.setIfInBounds_toArray, List.set_cons_zero, List.set_cons_succ]
        refine take_op (i := 5) (d := 82) (OP := Op.move (Operand.tmp 81)) (T := 4) (v := ?vzd19) rfl rfl rfl rfl (by kernel_rfl) (by kernel_rfl) (by kernel_rfl) (fun _ _ _ h => h) (by rfl) ?hzd19 hHeld ?rzd19
        case hzd19 => (intro w' hSw; (try dsimp only at hSw); go_simp <;> with_reducible rfl)
        try simp only [Act.put, List.setIfInBounds_toArray, List.set_cons_zero, List.set_cons_succ]
        refine take_op (i := 6) (d := 83) (OP := Op.move (Operand.tmp 13)) (T := 4) (v := ?vzd20) rfl rfl rfl rfl (by kernel_rfl) (by kernel_rfl) (by kernel_rfl) (fun _ _ _ h => h) (by rfl) ?hzd20 hHeld ?rzd20
        case hzd20 => (intro w' hSw; (try dsimp only at hSw); go_simp <;> with_reducible rfl)
        try simp only [Act.put, List.setIfInBounds_toArray, List.set_cons_zero, List.set_cons_succ]
        refine take_op (i := 7) (d := 84) (OP := Op.unOp UnOp.not 4 (Operand.tmp 83)) (T := 4) (v := ?vzd21) rfl rfl rfl rfl (by kernel_rfl) (by kernel_rfl) (by kernel_rfl) (fun _ _ _ h => h) (by rfl) ?hzd21 hHeld ?rzd21
        case hzd21 => (intro w' hSw; (try dsimp only at hSw); go_simp <;> with_reducible rfl)
        try simp only [Act.put, List.setIfInBounds_toArray, List.set_cons_zero, List.set_cons_succ]
        refine take_op (i := 8) (d := 85) (OP := Op.pick (Operand.tmp 82) (Operand.tmp 84) (Operand.const (Value.bool false))) (T := 4) (v := ?vzd22) rfl rfl rfl rfl (by kernel_rfl) (by kernel_rfl) (by kernel_rfl) (fun _ _ _ h => h) (by rfl) ?hzd22 hHeld ?rzd22
        case hzd22 => (intro w' hSw; (try dsimp only at hSw); go_simp <;> with_reducible rfl)
        try simp only [Act.put, List.setIfInBounds_toArray, List.set_cons_zero, List.set_cons_succ]
        refine take_op (i := 9) (d := 86) (OP := Op.move (Operand.tmp 85)) (T := 4) (v := ?vzd23) rfl rfl rfl rfl (by kernel_rfl) (by kernel_rfl) (by kernel_rfl) (fun _ _ _ h => h) (by rfl) ?hzd23 hHeld ?rzd23
        case hzd23 => (intro w' hSw; (try dsimp only at hSw); go_simp <;> with_reducible rfl)
        try simp only [Act.put, List.setIfInBounds_toArray, List.set_cons_zero, List.set_cons_succ]
        refine take_op (i := 10) (d := 87) (OP := Op.load 27 (Operand.tmp 11)) (T := 27) (v := ?vzd24) rfl rfl rfl rfl (by kernel_rfl) (by kernel_rfl) (by kernel_rfl) (fun _ _ _ h => h) (by rfl) ?hzd24 hHeld ?rzd24
        case hzd24 => (intro w' hSw; (try dsimp only at hSw); go_simp <;> with_reducible rfl)
        try simp only [Act.put, List.setIfInBounds_toArray, List.set_cons_zero, List.set_cons_succ]
        refine take_op (i := 11) (d := 88) (OP := Op.load 27 (Operand.tmp 3)) (T := 27) (v := ?vzd25) rfl rfl rfl rfl (by kernel_rfl) (by kernel_rfl) (by kernel_rfl) (fun _ _ _ h => h) (by rfl) ?hzd25 hHeld ?rzd25
        case hzd25 => (intro w' hSw; (try dsimp only at hSw); go_simp <;> with_reducible rfl)
        try simp only [Act.put, List.setIfInBounds_toArray, List.set_cons_zero, List.set_cons_succ]
        refine call_op (i := 12) (d := 89) (OP := Op.call { callee := Callee.value (Operand.func 79), args := #[Operand.tmp 87, Operand.tmp 88], argTypes := #[27, 27] }) (T := 4) (f := 79) (args := #[.agg #[.pointer pm], .agg #[.pointer pm]]) rfl rfl rfl rfl (by kernel_rfl) (by rfl) (by go_simp) ?_
        refine (HSM.out _ bW).mono ?_
        rintro e zc12 ⟨rfl, bzc12⟩
        have qzc12 : zc12.cell? ⟨Mb, 0, none⟩ = some (.pointer pm) ∧ zc12.cell? ⟨Bx, 0, none⟩ = some (.pointer pm) ∧ zc12.cell? ⟨Ex, 0, none⟩ = some (.int .i64 0) ∧ zc12.cell? ⟨Ex, 1, none⟩ = some (.int .i64 0) ∧ zc12.cell? ⟨Ex, 2, none⟩ = some (.string ⟨#[]⟩) ∧ zc12.cell? ⟨Ex, 3, none⟩ = some (.int .i64 0) ∧ zc12.cell? ⟨Ex, 4, none⟩ = some (.int .i64 0) ∧ zc12.cell? ⟨Ex, 5, none⟩ = some (.string ⟨#[]⟩) := ⟨cell_stays hHeld.1 bzc12, cell_stays hHeld.2.1 bzc12, cell_stays hHeld.2.2.1 bzc12, cell_stays hHeld.2.2.2.1 bzc12, cell_stays hHeld.2.2.2.2.1 bzc12, cell_stays hHeld.2.2.2.2.2.1 bzc12, cell_stays hHeld.2.2.2.2.2.2.1 bzc12, cell_stays hHeld.2.2.2.2.2.2.2 bzc12⟩
        refine ⟨_, rfl, qzc12, ?_⟩
        replace hHeld := qzc12
        replace bW := bW.trans (bzc12.mono bW.size)
        clear qzc12 bzc12
        try simp only [Act.put, List.setIfInBounds_toArray, List.set_cons_zero, List.set_cons_succ]
        refine take_op (i := 13) (d := 90) (OP := Op.pick (Operand.tmp 86) (Operand.tmp 89) (Operand.const (Value.bool false))) (T := 4) (v := ?vzd26) rfl rfl rfl rfl (by kernel_rfl) (by kernel_rfl) (by kernel_rfl) (fun _ _ _ h => h) (by rfl) ?hzd26 hHeld ?rzd26
        case hzd26 => (intro w' hSw; (try dsimp only at hSw); go_simp <;> with_reducible rfl)
        try simp only [Act.put, List.setIfInBounds_toArray, List.set_cons_zero, List.set_cons_succ]
        obtain ⟨u6, o6⟩ := set_one (i := 0) (.pointer pm) (HR10.out _ bW)
        have hS6 : (zc12.setCell ⟨Rb, 0, none⟩ (.pointer pm)).cell? ⟨Mb, 0, none⟩ = some (.pointer pm) ∧ (zc12.setCell ⟨Rb, 0, none⟩ (.pointer pm)).cell? ⟨Bx, 0, none⟩ = some (.pointer pm) ∧ (zc12.setCell ⟨Rb, 0, none⟩ (.pointer pm)).cell? ⟨Ex, 0, none⟩ = some (.int .i64 0) ∧ (zc12.setCell ⟨Rb, 0, none⟩ (.pointer pm)).cell? ⟨Ex, 1, none⟩ = some (.int .i64 0) ∧ (zc12.setCell ⟨Rb, 0, none⟩ (.pointer pm)).cell? ⟨Ex, 2, none⟩ = some (.string ⟨#[]⟩) ∧ (zc12.setCell ⟨Rb, 0, none⟩ (.pointer pm)).cell? ⟨Ex, 3, none⟩ = some (.int .i64 0) ∧ (zc12.setCell ⟨Rb, 0, none⟩ (.pointer pm)).cell? ⟨Ex, 4, none⟩ = some (.int .i64 0) ∧ (zc12.setCell ⟨Rb, 0, none⟩ (.pointer pm)).cell? ⟨Ex, 5, none⟩ = some (.string ⟨#[]⟩) := ⟨o6.cell hHeld.1 (by simp only; have := HNE10.out; omega), o6.cell hHeld.2.1 (by simp only; have := HNE10.out; omega), o6.cell hHeld.2.2.1 (by simp only; have := HNE10.out; omega), o6.cell hHeld.2.2.2.1 (by simp only; have := HNE10.out; omega), o6.cell hHeld.2.2.2.2.1 (by simp only; have := HNE10.out; omega), o6.cell hHeld.2.2.2.2.2.1 (by simp only; have := HNE10.out; omega), o6.cell hHeld.2.2.2.2.2.2.1 (by simp only; have := HNE10.out; omega), o6.cell hHeld.2.2.2.2.2.2.2 (by simp only; have := HNE10.out; omega)⟩
        refine skip_op (i := 14) (OP := Op.store 27 (Operand.tmp 6) (Operand.tmp 77)) (T := 0) (w' := zc12.setCell ⟨Rb, 0, none⟩ (.pointer pm)) rfl rfl rfl rfl (by kernel_rfl) (by rfl) (exec_st27 rfl rfl ((cell_of_row _ _ 0 _ 27 (0, 0) (HR10.out _ bW)).trans rfl) (frozen_of_row _ _ 0 _ 27 (HR10.out _ bW))) ⟨hS6, ?_⟩
        try simp only [Act.put, List.setIfInBounds_toArray, List.set_cons_zero, List.set_cons_succ]
        replace hHeld := hS6
        clear hS6
        refine take_op (i := 15) (d := 7) (OP := Op.assign (Operand.tmp 78)) (T := 22) (v := ?vzd27) rfl rfl rfl rfl (by kernel_rfl) (by kernel_rfl) (by kernel_rfl) (fun _ _ _ h => h) (by rfl) ?hzd27 hHeld ?rzd27
        case hzd27 => (intro w' hSw; (try dsimp only at hSw); go_simp <;> with_reducible rfl)
        try simp only [Act.put, List.setIfInBounds_toArray, List.set_cons_zero, List.set_cons_succ]
        refine take_op (i := 16) (d := 8) (OP := Op.assign (Operand.tmp 90)) (T := 4) (v := ?vzd28) rfl rfl rfl rfl (by kernel_rfl) (by kernel_rfl) (by kernel_rfl) (fun _ _ _ h => h) (by rfl) ?hzd28 hHeld ?rzd28
        case hzd28 => (intro w' hSw; (try dsimp only at hSw); go_simp <;> with_reducible rfl)
        try simp only [Act.put, List.setIfInBounds_toArray, List.set_cons_zero, List.set_cons_succ]
        refine wpAnyH_done (by kernel_rfl) ?_ _
        have HE := hide (And.intro u6 (And.intro (Below.only (HQ10.out _ bW).2.2 o6 (HQ10.out _ bW).2.2.size (fun j e => by have := HZ.out; have e' : j = Rb := e; omega)) (And.intro ((HQ10.out _ bW).1.aside (HR10.out _ bW) o6) ((HQ10.out _ bW).2.1.aside (HR10.out _ bW) o6))))
        clear u6 o6 hHeld bW
        go_wp2
        refine ret_row_tt Rb [.pointer pm] rfl rfl rfl rfl Tryz.underlying27 rfl T27 (by simpa using HE.out.1) rfl ?_
        exact ⟨t, pm, ao, c, HT.out.2.2.1, by rw [← HT.out.1]; rfl, HE.out.2.2.1, HT.out.2.2.2, HE.out.2.2.2, Nat.le_succ _, HE.out.2.1⟩
      | cons e0 rest =>
        obtain ⟨⟨g0, r0, lb0, n0, ix0⟩, X0⟩ := e0
        have hpo' : ∀ W, Below w0.heap.size w0 W → Calls Tryz.prog 69 #[.agg #[.pointer pm]] W fun e w' => ∃ t1 p1, t1.ptr = .pointer p1 ∧ e = .returned (.tuple #[.agg #[.pointer p1], .agg #[.int .i64 g0, .int .i64 r0, .string lb0, .int .i64 n0, .int .i64 ix0, .string X0], .bool true]) ∧ Mg w' t1 ∧ t1.list = t.list.drop 1 ∧ Below W.heap.size W w' := fun W hW => (hpo W hW).mono (fun e w' hh => by
          obtain ⟨t1, p1, h1, h2, h3, h4, -, h5⟩ := hh
          rw [if_pos HT.out.2.2.2] at h4
          rw [hl] at h2
          exact ⟨t1, p1, h1, h2, h3, by rw [h4]; exact List.drop_one.symm, h5⟩)
        have hN0 : N = rest.length + 1 := by rw [HT.out.1, hl]; rfl
        have hN1 : ¬ N = 0 := by omega
        have hN2 : ¬ (N : Int) = 0 := by omega
        obtain ⟨eb, eo, rfl, -⟩ := (HD.out w0 (Below.refl _ _)).2.2.1.re.cells (k := 0) (x := ((g0, r0, lb0, n0, ix0), X0)) (by rw [hl]; rfl)
        have HE0 : Hid (∀ W, Below w0.heap.size w0 W → W.cell? ⟨eb, eo, none⟩ = some (.int .i64 g0) ∧ W.cell? ⟨eb, eo + 1, none⟩ = some (.int .i64 r0) ∧ W.cell? ⟨eb, eo + 2, none⟩ = some (.string lb0) ∧ W.cell? ⟨eb, eo + 3, none⟩ = some (.int .i64 n0) ∧ W.cell? ⟨eb, eo + 4, none⟩ = some (.int .i64 ix0) ∧ W.cell? ⟨eb, eo + 5, none⟩ = some (.string X0)) := hide (fun W hW => by
          obtain ⟨b', o', e', q0, q1, q2, q3, q4, q5⟩ := (HD.out W hW).2.2.1.re.cells (k := 0) (x := ((g0, r0, lb0, n0, ix0), X0)) (by rw [hl]; rfl)
          cases e'
          simp only [Nat.zero_mul, Nat.add_zero] at q0 q1 q2 q3 q4 q5
          exact ⟨q0, q1, q2, q3, q4, q5⟩)
        have hebn : eb ≠ Rb := by
          intro e
          have q := cell_of_row w0 Rb eo _ 27 (0, 0) (HD.out w0 (Below.refl _ _)).1
          rw [← e, (HE0.out w0 (Below.refl _ _)).1] at q
          cases eo with
          | zero => simp at q
          | succ k => simp at q
        have heq := fun W => run_eq77 ((g0, r0, lb0, n0, ix0), X0) ((g0, r0, lb0, n0, ix0), X0) W
        rw [decide_eq_true rfl] at heq
        dsimp only [ev] at heq
        have hN3 : 0 < N := by omega
        have HL := hide (And.intro hl hN0)
        clear hpo hl hN0
        go_enter Tryz.func66, Tryz.ntmps66
        go_upto_region 1 with fail
        rw [← HW0.out.1, ← HW0.out.2.1, ← HW0.out.2.2.1, ← HW0.out.2.2.2]
        go_upto_region 11 with (go_at_call 69; refine (hpo' w0 (Below.refl _ _)).mono ?_; rintro e w1 ⟨t1, p1, hp1, rfl, mg1, hl1, b1⟩; have H1 := hide (And.intro hp1 (And.intro mg1 (And.intro hl1 b1))); clear hp1 mg1 hl1 b1; dsimp only)
        obtain ⟨A3, sl3, rq3⟩ := slice_loQ (k := 1) ((HD.out w1 H1.out.2.2.2).2.2.1) (show 1 ≤ (elsL t.list).length by rw [← HT.out.1, HL.out.2]; omega)
        rw [← HT.out.1] at sl3
        rw [show ((1 : Nat) : Int) = 1 from rfl] at sl3
        obtain ⟨Bx, hBx⟩ : ∃ q, q = w1.heap.size := ⟨_, rfl⟩
        obtain ⟨Ex, hEx⟩ : ∃ q, q = w1.heap.size + 1 := ⟨_, rfl⟩
        obtain ⟨w2, hw2⟩ : ∃ q, q = (w1.alloc (.cells #[.pointer p1] 27)).alloc (.cells #[.int .i64 g0, .int .i64 r0, .string lb0, .int .i64 n0, .int .i64 ix0, .string X0] 53) := ⟨_, rfl⟩
        have b12 : Below w1.heap.size w1 w2 := by rw [hw2]; exact ((Below.refl _ w1).alloc (Nat.le_refl _) _).alloc (by simp) _
        obtain ⟨r2, r3⟩ := new2 w1 (.cells #[.pointer p1] 27) (.cells #[.int .i64 g0, .int .i64 r0, .string lb0, .int .i64 n0, .int .i64 ix0, .string X0] 53)
        rw [← hw2, ← hBx] at r2
        rw [← hw2, ← hEx] at r3
        rw [← hw2, ← hEx, ← hBx]
        have b02 : Below w0.heap.size w0 w2 := H1.out.2.2.2.trans (b12.mono H1.out.2.2.2.size)
        have HS11 : Hid (∀ W, Below w2.heap.size w2 W → W.cell? ⟨Bx, 0, none⟩ = some (.pointer p1) ∧ W.cell? ⟨Ex, 0, none⟩ = some (.int .i64 g0) ∧ W.cell? ⟨Ex, 1, none⟩ = some (.int .i64 r0) ∧ W.cell? ⟨Ex, 2, none⟩ = some (.string lb0) ∧ W.cell? ⟨Ex, 3, none⟩ = some (.int .i64 n0) ∧ W.cell? ⟨Ex, 4, none⟩ = some (.int .i64 ix0) ∧ W.cell? ⟨Ex, 5, none⟩ = some (.string X0) ∧ W.cell? ⟨eb, eo, none⟩ = some (.int .i64 g0) ∧ W.cell? ⟨eb, eo + 1, none⟩ = some (.int .i64 r0) ∧ W.cell? ⟨eb, eo + 2, none⟩ = some (.string lb0) ∧ W.cell? ⟨eb, eo + 3, none⟩ = some (.int .i64 n0) ∧ W.cell? ⟨eb, eo + 4, none⟩ = some (.int .i64 ix0) ∧ W.cell? ⟨eb, eo + 5, none⟩ = some (.string X0)) := hide (fun W hW => by
          have q := hW.block _ (Array.getElem?_eq_some_iff.1 r3).1 |>.trans r3
          have c6 := cells_of_enc q
          have e6 := HE0.out W (b02.trans (hW.mono b02.size))
          exact ⟨cell_stays ((cell_of_row _ _ 0 _ 27 (0, 0) r2).trans rfl) hW, c6.1, c6.2.1, c6.2.2.1, c6.2.2.2.1, c6.2.2.2.2.1, c6.2.2.2.2.2, e6⟩)
        have HR11 : Hid (∀ W, Below w2.heap.size w2 W → W.heap[Rb]? = some (.cells #[.pointer none] 27 (0, 0))) := hide (fun W hW => (HD.out W (b02.trans (hW.mono b02.size))).1)
        have HNE11 : Hid (Bx ≠ Rb ∧ Ex ≠ Rb ∧ eb ≠ Rb) := hide (by have := HZ.out; have := H1.out.2.2.2.size; exact ⟨by omega, by omega, hebn⟩)
        have HQ11 : Hid (∀ W, Below w2.heap.size w2 W → Mg W t1 ∧ RQ W A3 (c - 1) ((elsL t.list).drop 1) ∧ Below w.heap.size w W) := hide (fun W hW => ⟨H1.out.2.1.below (b12.trans (hW.mono b12.size)), rq3.below (b12.trans (hW.mono b12.size)), (HD.out W (b02.trans (hW.mono b02.size))).2.2.2⟩)
        clear hBx hEx hw2 b12 r2 r3 b02 rq3 hebn
        refine wp_region_held_drew (S := fun w' => w'.cell? ⟨Bx, 0, none⟩ = some (.pointer p1) ∧ w'.cell? ⟨Ex, 0, none⟩ = some (.int .i64 g0) ∧ w'.cell? ⟨Ex, 1, none⟩ = some (.int .i64 r0) ∧ w'.cell? ⟨Ex, 2, none⟩ = some (.string lb0) ∧ w'.cell? ⟨Ex, 3, none⟩ = some (.int .i64 n0) ∧ w'.cell? ⟨Ex, 4, none⟩ = some (.int .i64 ix0) ∧ w'.cell? ⟨Ex, 5, none⟩ = some (.string X0) ∧ w'.cell? ⟨eb, eo, none⟩ = some (.int .i64 g0) ∧ w'.cell? ⟨eb, eo + 1, none⟩ = some (.int .i64 r0) ∧ w'.cell? ⟨eb, eo + 2, none⟩ = some (.string lb0) ∧ w'.cell? ⟨eb, eo + 3, none⟩ = some (.int .i64 n0) ∧ w'.cell? ⟨eb, eo + 4, none⟩ = some (.int .i64 ix0) ∧ w'.cell? ⟨eb, eo + 5, none⟩ = some (.string X0)) (by kernel_rfl) (by exact HS11.out _ (drew_below w2)) (fun hHeld => ?_)
        try dsimp only at hHeld
        have bW : Below w2.heap.size w2 w2.drew := drew_below w2
        generalize w2.drew = Wd at hHeld bW ⊢
        refine take_op (i := 0) (d := 91) (OP := Op.load 27 (Operand.tmp 11)) (T := 27) (v := ?vzd1) rfl rfl rfl rfl (by kernel_rfl) (by kernel_rfl) (by kernel_rfl) (fun _ _ _ h => h) (by rfl) ?hzd1 hHeld ?rzd1
        case hzd1 => (intro w' hSw; (try dsimp only at hSw); go_simp <;> with_reducible rfl)
        try simp only [Act.put, List.setIfInBounds_toArray, List.set_cons_zero, List.set_cons_succ]
        refine take_op (i := 1) (d := 92) (OP := Op.move (Operand.tmp 1)) (T := 22) (v := ?vzd2) rfl rfl rfl rfl (by kernel_rfl) (by kernel_rfl) (by kernel_rfl) (fun _ _ _ h => h) (by rfl) ?hzd2 hHeld ?rzd2
        case hzd2 => (intro w' hSw; (try dsimp only at hSw); go_simp <;> with_reducible rfl)
        try simp only [Act.put, List.setIfInBounds_toArray, List.set_cons_zero, List.set_cons_succ]
        refine take_op (i := 2) (d := 93) (OP := Op.slice 22 (Operand.tmp 92) (some (Operand.const (Value.int IntKind.i64 1))) none none) (T := 22) (v := ?vzd3) rfl rfl rfl rfl (by kernel_rfl) (by kernel_rfl) (by kernel_rfl) (fun _ _ _ h => h) (by rfl) ?hzd3 hHeld ?rzd3
        case hzd3 => (intro w' hSw; (try dsimp only at hSw); go_simp <;> with_reducible rfl)
        try simp only [Act.put, List.setIfInBounds_toArray, List.set_cons_zero, List.set_cons_succ]
        refine take_op (i := 3) (d := 94) (OP := Op.load 53 (Operand.tmp 12)) (T := 53) (v := ?vzd4) rfl rfl rfl rfl (by kernel_rfl) (by kernel_rfl) (by kernel_rfl) (fun _ _ _ h => h) (by rfl) ?hzd4 hHeld ?rzd4
        case hzd4 => (intro w' hSw; (try dsimp only at hSw); go_simp <;> with_reducible rfl)
        try simp only [Act.put, List.setIfInBounds_toArray, List.set_cons_zero, List.set_cons_succ]
        refine take_op (i := 4) (d := 95) (OP := Op.move (Operand.tmp 1)) (T := 22) (v := ?vzd5) rfl rfl rfl rfl (by kernel_rfl) (by kernel_rfl) (by kernel_rfl) (fun _ _ _ h => h) (by rfl) ?hzd5 hHeld ?rzd5
        case hzd5 => (intro w' hSw; (try dsimp only at hSw); go_simp <;> with_reducible rfl)
        try simp only [Act.put, List.setIfInBounds_toArray, List.set_cons_zero, List.set_cons_succ]
        refine take_op (i := 5) (d := 96) (OP := Op.indexAddr 22 (Operand.tmp 95) (Operand.const (Value.int IntKind.i64 0))) (T := 0) (v := ?vzd6) rfl rfl rfl rfl (by kernel_rfl) (by kernel_rfl) (by kernel_rfl) (fun _ _ _ h => h) (by rfl) ?hzd6 hHeld ?rzd6
        case hzd6 => (intro w' hSw; (try dsimp only at hSw); go_simp <;> with_reducible rfl)
        try simp only [Act.put, List.setIfInBounds_toArray, List.set_cons_zero, List.set_cons_succ]
        refine take_op (i := 6) (d := 97) (OP := Op.load 53 (Operand.tmp 96)) (T := 53) (v := ?vzd7) rfl rfl rfl rfl (by kernel_rfl) (by kernel_rfl) (by kernel_rfl) (fun _ _ _ h => h) (by rfl) ?hzd7 hHeld ?rzd7
        case hzd7 => (intro w' hSw; (try dsimp only at hSw); go_simp <;> with_reducible rfl)
        try simp only [Act.put, List.setIfInBounds_toArray, List.set_cons_zero, List.set_cons_succ]
        refine take_op (i := 7) (d := 98) (OP := Op.binOp BinOp.eql 53 (Operand.tmp 94) (Operand.tmp 97) 53) (T := 4) (v := ?vzd8) rfl rfl rfl rfl (by kernel_rfl) (by kernel_rfl) (by kernel_rfl) (fun _ _ _ h => h) (by rfl) ?hzd8 hHeld ?rzd8
        case hzd8 => (intro w' hSw; (try dsimp only at hSw); go_simp <;> with_reducible rfl)
        try simp only [Act.put, List.setIfInBounds_toArray, List.set_cons_zero, List.set_cons_succ]
        refine take_op (i := 8) (d := 99) (OP := Op.move (Operand.tmp 98)) (T := 4) (v := ?vzd9) rfl rfl rfl rfl (by kernel_rfl) (by kernel_rfl) (by kernel_rfl) (fun _ _ _ h => h) (by rfl) ?hzd9 hHeld ?rzd9
        case hzd9 => (intro w' hSw; (try dsimp only at hSw); go_simp <;> with_reducible rfl)
        try simp only [Act.put, List.setIfInBounds_toArray, List.set_cons_zero, List.set_cons_succ]
        refine take_op (i := 9) (d := 100) (OP := Op.move (Operand.tmp 13)) (T := 4) (v := ?vzd10) rfl rfl rfl rfl (by kernel_rfl) (by kernel_rfl) (by kernel_rfl) (fun _ _ _ h => h) (by rfl) ?hzd10 hHeld ?rzd10
        case hzd10 => (intro w' hSw; (try dsimp only at hSw); go_simp <;> with_reducible rfl)
        try simp only [Act.put, List.setIfInBounds_toArray, List.set_cons_zero, List.set_cons_succ]
        refine take_op (i := 10) (d := 101) (OP := Op.pick (Operand.tmp 99) (Operand.tmp 100) (Operand.const (Value.bool false))) (T := 4) (v := ?vzd11) rfl rfl rfl rfl (by kernel_rfl) (by kernel_rfl) (by kernel_rfl) (fun _ _ _ h => h) (by rfl) ?hzd11 hHeld ?rzd11
        case hzd11 => (intro w' hSw; (try dsimp only at hSw); go_simp <;> with_reducible rfl)
        try simp only [Act.put, List.setIfInBounds_toArray, List.set_cons_zero, List.set_cons_succ]
        obtain ⟨u6, o6⟩ := set_one (i := 0) (.pointer p1) (HR11.out _ bW)
        have hS6 : (Wd.setCell ⟨Rb, 0, none⟩ (.pointer p1)).cell? ⟨Bx, 0, none⟩ = some (.pointer p1) ∧ (Wd.setCell ⟨Rb, 0, none⟩ (.pointer p1)).cell? ⟨Ex, 0, none⟩ = some (.int .i64 g0) ∧ (Wd.setCell ⟨Rb, 0, none⟩ (.pointer p1)).cell? ⟨Ex, 1, none⟩ = some (.int .i64 r0) ∧ (Wd.setCell ⟨Rb, 0, none⟩ (.pointer p1)).cell? ⟨Ex, 2, none⟩ = some (.string lb0) ∧ (Wd.setCell ⟨Rb, 0, none⟩ (.pointer p1)).cell? ⟨Ex, 3, none⟩ = some (.int .i64 n0) ∧ (Wd.setCell ⟨Rb, 0, none⟩ (.pointer p1)).cell? ⟨Ex, 4, none⟩ = some (.int .i64 ix0) ∧ (Wd.setCell ⟨Rb, 0, none⟩ (.pointer p1)).cell? ⟨Ex, 5, none⟩ = some (.string X0) ∧ (Wd.setCell ⟨Rb, 0, none⟩ (.pointer p1)).cell? ⟨eb, eo, none⟩ = some (.int .i64 g0) ∧ (Wd.setCell ⟨Rb, 0, none⟩ (.pointer p1)).cell? ⟨eb, eo + 1, none⟩ = some (.int .i64 r0) ∧ (Wd.setCell ⟨Rb, 0, none⟩ (.pointer p1)).cell? ⟨eb, eo + 2, none⟩ = some (.string lb0) ∧ (Wd.setCell ⟨Rb, 0, none⟩ (.pointer p1)).cell? ⟨eb, eo + 3, none⟩ = some (.int .i64 n0) ∧ (Wd.setCell ⟨Rb, 0, none⟩ (.pointer p1)).cell? ⟨eb, eo + 4, none⟩ = some (.int .i64 ix0) ∧ (Wd.setCell ⟨Rb, 0, none⟩ (.pointer p1)).cell? ⟨eb, eo + 5, none⟩ = some (.string X0) := ⟨o6.cell hHeld.1 (by simp only; have := HNE11.out; omega), o6.cell hHeld.2.1 (by simp only; have := HNE11.out; omega), o6.cell hHeld.2.2.1 (by simp only; have := HNE11.out; omega), o6.cell hHeld.2.2.2.1 (by simp only; have := HNE11.out; omega), o6.cell hHeld.2.2.2.2.1 (by simp only; have := HNE11.out; omega), o6.cell hHeld.2.2.2.2.2.1 (by simp only; have := HNE11.out; omega), o6.cell hHeld.2.2.2.2.2.2.1 (by simp only; have := HNE11.out; omega), o6.cell hHeld.2.2.2.2.2.2.2.1 (by simp only; have := HNE11.out; omega), o6.cell hHeld.2.2.2.2.2.2.2.2.1 (by simp only; have := HNE11.out; omega), o6.cell hHeld.2.2.2.2.2.2.2.2.2.1 (by simp only; have := HNE11.out; omega), o6.cell hHeld.2.2.2.2.2.2.2.2.2.2.1 (by simp only; have := HNE11.out; omega), o6.cell hHeld.2.2.2.2.2.2.2.2.2.2.2.1 (by simp only; have := HNE11.out; omega), o6.cell hHeld.2.2.2.2.2.2.2.2.2.2.2.2 (by simp only; have := HNE11.out; omega)⟩
        refine skip_op (i := 11) (OP := Op.store 27 (Operand.tmp 6) (Operand.tmp 91)) (T := 0) (w' := Wd.setCell ⟨Rb, 0, none⟩ (.pointer p1)) rfl rfl rfl rfl (by kernel_rfl) (by rfl) (exec_st27 rfl rfl ((cell_of_row _ _ 0 _ 27 (0, 0) (HR11.out _ bW)).trans rfl) (frozen_of_row _ _ 0 _ 27 (HR11.out _ bW))) ⟨hS6, ?_⟩
        try simp only [Act.put, List.setIfInBounds_toArray, List.set_cons_zero, List.set_cons_succ]
        replace hHeld := hS6
        clear hS6
        refine take_op (i := 12) (d := 7) (OP := Op.assign (Operand.tmp 93)) (T := 22) (v := ?vzd12) rfl rfl rfl rfl (by kernel_rfl) (by kernel_rfl) (by kernel_rfl) (fun _ _ _ h => h) (by rfl) ?hzd12 hHeld ?rzd12
        case hzd12 => (intro w' hSw; (try dsimp only at hSw); go_simp <;> with_reducible rfl)
        try simp only [Act.put, List.setIfInBounds_toArray, List.set_cons_zero, List.set_cons_succ]
        refine take_op (i := 13) (d := 8) (OP := Op.assign (Operand.tmp 101)) (T := 4) (v := ?vzd13) rfl rfl rfl rfl (by kernel_rfl) (by kernel_rfl) (by kernel_rfl) (fun _ _ _ h => h) (by rfl) ?hzd13 hHeld ?rzd13
        case hzd13 => (intro w' hSw; (try dsimp only at hSw); go_simp <;> with_reducible rfl)
        try simp only [Act.put, List.setIfInBounds_toArray, List.set_cons_zero, List.set_cons_succ]
        refine wpAnyH_done (by kernel_rfl) ?_ _
        have HE := hide (And.intro u6 (And.intro (Below.only (HQ11.out _ bW).2.2 o6 (HQ11.out _ bW).2.2.size (fun j e => by have := HZ.out; have e' : j = Rb := e; omega)) (And.intro ((HQ11.out _ bW).1.aside (HR11.out _ bW) o6) ((HQ11.out _ bW).2.1.aside (HR11.out _ bW) o6))))
        clear u6 o6 hHeld bW
        go_wp2
        refine ret_row_tt Rb [.pointer p1] rfl rfl rfl rfl Tryz.underlying27 rfl T27 (by simpa using HE.out.1) rfl ?_
        have hel : elsL t1.list = (elsL t.list).drop 1 := by rw [H1.out.2.2.1, els_drop HT.out.2.2.2]
        exact ⟨t1, p1, A3, c - 1, H1.out.1, by rw [hel, List.length_drop, ← HT.out.1]; rfl, HE.out.2.2.1, by rw [H1.out.2.2.1]; exact may_drop HT.out.2.2.2 1, by rw [hel]; exact HE.out.2.2.2, by rw [← Pm.T.n_eq, ← Pm.T.n_eq, H1.out.2.2.1, List.length_drop]; omega, HE.out.2.1⟩
    · by_cases k3 : K = 3
      · subst k3
        clear k1 k2
        have hdr := fun W (hW : Below w0.heap.size w0 W) => qDrop_any nn (HD.out W hW).2.1 HT.out.2.2.1
        obtain ⟨kN, hkN⟩ : ∃ q, q = dropN t.list nn := ⟨_, rfl⟩
        have hki : (kN : Int) = max 0 (min nn (N : Int)) := by
          rw [hkN]
          unfold dropN
          rw [if_pos HT.out.2.2.2, Pm.T.n_eq, ← HNN.out]
          omega
        have hkle : kN ≤ N := by omega
        have hdr' : ∀ W, Below w0.heap.size w0 W → Calls Tryz.prog 78 #[.agg #[.pointer pm], .int .i64 nn] W fun e w' => ∃ t1 p1, t1.ptr = .pointer p1 ∧ e = .returned (.tuple #[.agg #[.pointer p1], .int .i64 (kN : Nat)]) ∧ Mg w' t1 ∧ t1.list = t.list.drop kN ∧ Below W.heap.size W w' := fun W hW => (hdr W hW).mono (fun e w' hh => by
          obtain ⟨t1, p1, h1, h2, h3, h4, -, h5⟩ := hh
          rw [← hkN] at h2 h4
          exact ⟨t1, p1, h1, h2, h3, h4, h5⟩)
        have HKI := hide (And.intro hki hkle)
        clear hdr hkN hki hkle
        go_enter Tryz.func66, Tryz.ntmps66
        go_upto_region 1 with fail
        rw [← HW0.out.1, ← HW0.out.2.1, ← HW0.out.2.2.1, ← HW0.out.2.2.2]
        go_upto_region 15 with (go_at_call 78; refine (hdr' w0 (Below.refl _ _)).mono ?_; rintro e w1 ⟨t1, p1, hp1, rfl, mg1, hl1, b1⟩; have H1 := hide (And.intro hp1 (And.intro mg1 (And.intro hl1 b1))); have y7' := (HC.out (w1.alloc (.cells #[.pointer p1] 27)) (b1.trans (((Below.refl _ w1).alloc (Nat.le_refl _) _).mono b1.size))).2.2.2.2.2.2.2.2; clear hp1 mg1 hl1 b1; dsimp only)
        rw [← HKI.out.1]
        obtain ⟨A3, sl3, rq3⟩ := slice_loQ ((HD.out w1 H1.out.2.2.2).2.2.1) (show kN ≤ (elsL t.list).length by rw [← HT.out.1]; exact HKI.out.2)
        rw [← HT.out.1] at sl3
        obtain ⟨Bx, hBx⟩ : ∃ q, q = w1.heap.size := ⟨_, rfl⟩
        obtain ⟨w2, hw2⟩ : ∃ q, q = w1.alloc (.cells #[.pointer p1] 27) := ⟨_, rfl⟩
        have b12 : Below w1.heap.size w1 w2 := by rw [hw2]; exact (Below.refl _ w1).alloc (Nat.le_refl _) _
        have r2 := heap_alloc_new w1 (.cells #[.pointer p1] 27)
        rw [← hw2, ← hBx] at r2
        rw [← hw2, ← hBx]
        have b02 : Below w0.heap.size w0 w2 := H1.out.2.2.2.trans (b12.mono H1.out.2.2.2.size)
        have HS15 : Hid (∀ W, Below w2.heap.size w2 W → W.cell? ⟨Bx, 0, none⟩ = some (.pointer p1)) := hide (fun W hW => cell_stays ((cell_of_row _ _ 0 _ 27 (0, 0) r2).trans rfl) hW)
        have HR15 : Hid (∀ W, Below w2.heap.size w2 W → W.heap[Rb]? = some (.cells #[.pointer none] 27 (0, 0))) := hide (fun W hW => (HD.out W (b02.trans (hW.mono b02.size))).1)
        have HNE15 : Hid (Bx ≠ Rb) := hide (by have := HZ.out; have := H1.out.2.2.2.size; omega)
        have HQ15 : Hid (∀ W, Below w2.heap.size w2 W → Mg W t1 ∧ RQ W A3 (c - kN) ((elsL t.list).drop kN) ∧ Below w.heap.size w W) := hide (fun W hW => ⟨H1.out.2.1.below (b12.trans (hW.mono b12.size)), rq3.below (b12.trans (hW.mono b12.size)), (HD.out W (b02.trans (hW.mono b02.size))).2.2.2⟩)
        clear y7' hBx hw2 b12 r2 b02 rq3
        refine wp_region_held_drew (S := fun w' => w'.cell? ⟨Bx, 0, none⟩ = some (.pointer p1)) (by kernel_rfl) (by exact HS15.out _ (drew_below w2)) (fun hHeld => ?_)
        try dsimp only at hHeld
        have bW : Below w2.heap.size w2 w2.drew := drew_below w2
        generalize w2.drew = Wd at hHeld bW ⊢
        refine take_op (i := 0) (d := 117) (OP := Op.load 27 (Operand.tmp 14)) (T := 27) (v := ?vzd49) rfl rfl rfl rfl (by kernel_rfl) (by kernel_rfl) (by kernel_rfl) (fun _ _ _ h => h) (by rfl) ?hzd49 hHeld ?rzd49
        case hzd49 => (intro w' hSw; (try dsimp only at hSw); go_simp <;> with_reducible rfl)
        try simp only [Act.put, List.setIfInBounds_toArray, List.set_cons_zero, List.set_cons_succ]
        refine take_op (i := 1) (d := 118) (OP := Op.move (Operand.tmp 1)) (T := 22) (v := ?vzd50) rfl rfl rfl rfl (by kernel_rfl) (by kernel_rfl) (by kernel_rfl) (fun _ _ _ h => h) (by rfl) ?hzd50 hHeld ?rzd50
        case hzd50 => (intro w' hSw; (try dsimp only at hSw); go_simp <;> with_reducible rfl)
        try simp only [Act.put, List.setIfInBounds_toArray, List.set_cons_zero, List.set_cons_succ]
        refine take_op (i := 2) (d := 119) (OP := Op.move (Operand.tmp 16)) (T := 3) (v := ?vzd51) rfl rfl rfl rfl (by kernel_rfl) (by kernel_rfl) (by kernel_rfl) (fun _ _ _ h => h) (by rfl) ?hzd51 hHeld ?rzd51
        case hzd51 => (intro w' hSw; (try dsimp only at hSw); go_simp <;> with_reducible rfl)
        try simp only [Act.put, List.setIfInBounds_toArray, List.set_cons_zero, List.set_cons_succ]
        refine take_op (i := 3) (d := 120) (OP := Op.slice 22 (Operand.tmp 118) (some (Operand.tmp 119)) none none) (T := 22) (v := ?vzd52) rfl rfl rfl rfl (by kernel_rfl) (by kernel_rfl) (by kernel_rfl) (fun _ _ _ h => h) (by rfl) ?hzd52 hHeld ?rzd52
        case hzd52 => (intro w' hSw; (try dsimp only at hSw); go_simp <;> with_reducible rfl)
        try simp only [Act.put, List.setIfInBounds_toArray, List.set_cons_zero, List.set_cons_succ]
        refine take_op (i := 4) (d := 121) (OP := Op.move (Operand.tmp 15)) (T := 3) (v := ?vzd53) rfl rfl rfl rfl (by kernel_rfl) (by kernel_rfl) (by kernel_rfl) (fun _ _ _ h => h) (by rfl) ?hzd53 hHeld ?rzd53
        case hzd53 => (intro w' hSw; (try dsimp only at hSw); go_simp <;> with_reducible rfl)
        try simp only [Act.put, List.setIfInBounds_toArray, List.set_cons_zero, List.set_cons_succ]
        refine take_op (i := 5) (d := 122) (OP := Op.move (Operand.tmp 16)) (T := 3) (v := ?vzd54) rfl rfl rfl rfl (by kernel_rfl) (by kernel_rfl) (by kernel_rfl) (fun _ _ _ h => h) (by rfl) ?hzd54 hHeld ?rzd54
        case hzd54 => (intro w' hSw; (try dsimp only at hSw); go_simp <;> with_reducible rfl)
        try simp only [Act.put, List.setIfInBounds_toArray, List.set_cons_zero, List.set_cons_succ]
        refine take_op (i := 6) (d := 123) (OP := Op.binOp BinOp.eql 3 (Operand.tmp 121) (Operand.tmp 122) 3) (T := 4) (v := ?vzd55) rfl rfl rfl rfl (by kernel_rfl) (by kernel_rfl) (by kernel_rfl) (fun _ _ _ h => h) (by rfl) ?hzd55 hHeld ?rzd55
        case hzd55 => (intro w' hSw; (try dsimp only at hSw); go_simp <;> with_reducible rfl)
        try simp only [Act.put, List.setIfInBounds_toArray, List.set_cons_zero, List.set_cons_succ]
        obtain ⟨u6, o6⟩ := set_one (i := 0) (.pointer p1) (HR15.out _ bW)
        have hS6 : (Wd.setCell ⟨Rb, 0, none⟩ (.pointer p1)).cell? ⟨Bx, 0, none⟩ = some (.pointer p1) := o6.cell hHeld (by simp only; have := HNE15.out; omega)
        refine skip_op (i := 7) (OP := Op.store 27 (Operand.tmp 6) (Operand.tmp 117)) (T := 0) (w' := Wd.setCell ⟨Rb, 0, none⟩ (.pointer p1)) rfl rfl rfl rfl (by kernel_rfl) (by rfl) (exec_st27 rfl rfl ((cell_of_row _ _ 0 _ 27 (0, 0) (HR15.out _ bW)).trans rfl) (frozen_of_row _ _ 0 _ 27 (HR15.out _ bW))) ⟨hS6, ?_⟩
        try simp only [Act.put, List.setIfInBounds_toArray, List.set_cons_zero, List.set_cons_succ]
        replace hHeld := hS6
        clear hS6
        refine take_op (i := 8) (d := 7) (OP := Op.assign (Operand.tmp 120)) (T := 22) (v := ?vzd56) rfl rfl rfl rfl (by kernel_rfl) (by kernel_rfl) (by kernel_rfl) (fun _ _ _ h => h) (by rfl) ?hzd56 hHeld ?rzd56
        case hzd56 => (intro w' hSw; (try dsimp only at hSw); go_simp <;> with_reducible rfl)
        try simp only [Act.put, List.setIfInBounds_toArray, List.set_cons_zero, List.set_cons_succ]
        refine take_op (i := 9) (d := 8) (OP := Op.assign (Operand.tmp 123)) (T := 4) (v := ?vzd57) rfl rfl rfl rfl (by kernel_rfl) (by kernel_rfl) (by kernel_rfl) (fun _ _ _ h => h) (by rfl) ?hzd57 hHeld ?rzd57
        case hzd57 => (intro w' hSw; (try dsimp only at hSw); go_simp <;> with_reducible rfl)
        try simp only [Act.put, List.setIfInBounds_toArray, List.set_cons_zero, List.set_cons_succ]
        refine wpAnyH_done (by kernel_rfl) ?_ _
        have HE := hide (And.intro u6 (And.intro (Below.only (HQ15.out _ bW).2.2 o6 (HQ15.out _ bW).2.2.size (fun j e => by have := HZ.out; have e' : j = Rb := e; omega)) (And.intro ((HQ15.out _ bW).1.aside (HR15.out _ bW) o6) ((HQ15.out _ bW).2.1.aside (HR15.out _ bW) o6))))
        clear u6 o6 hHeld bW
        go_wp2
        refine ret_row_tt Rb [.pointer p1] rfl rfl rfl rfl Tryz.underlying27 rfl T27 (by simpa using HE.out.1) rfl ?_
        have hel : elsL t1.list = (elsL t.list).drop kN := by rw [H1.out.2.2.1, els_drop HT.out.2.2.2]
        exact ⟨t1, p1, A3, c - kN, H1.out.1, by rw [hel, List.length_drop, ← HT.out.1]; rfl, HE.out.2.2.1, by rw [H1.out.2.2.1]; exact may_drop HT.out.2.2.2 kN, by rw [hel]; exact HE.out.2.2.2, by rw [← Pm.T.n_eq, ← Pm.T.n_eq, H1.out.2.2.1, List.length_drop]; omega, HE.out.2.1⟩
      · go_enter Tryz.func66, Tryz.ntmps66
        go_upto_region 1 with fail
        rw [← HW0.out.1, ← HW0.out.2.1, ← HW0.out.2.2.1, ← HW0.out.2.2.2]
        obtain ⟨r5, mg5, rq5, bw5⟩ := HD.out w0 (Below.refl _ _)
        obtain ⟨u6, o6⟩ := set_one (i := 0) (.pointer pm) r5
        have b6 := Below.only bw5 o6 bw5.size (fun j e => by have := HZ.out; have e' : j = Rb := e; omega)
        have HE := hide (And.intro u6 (And.intro b6 (And.intro (mg5.aside r5 o6) (rq5.aside r5 o6))))
        have c6 : w0.cell? ⟨Rb, 0, none⟩ = some (.pointer none) := (cell_of_row _ _ 0 _ 27 (0, 0) r5).trans rfl
        have f6 : w0.frozen? ⟨Rb, 0, none⟩ = false := frozen_of_row _ _ 0 _ 27 r5
        clear r5 mg5 rq5 bw5 u6 o6 b6
        go_wp2
        refine ret_row_tt Rb [.pointer pm] rfl rfl rfl rfl Tryz.underlying27 rfl T27 (by simpa using HE.out.1) rfl ?_
        exact ⟨t, pm, ao, c, HT.out.2.2.1, by rw [← HT.out.1]; rfl, HE.out.2.2.1, HT.out.2.2.2, HE.out.2.2.2, Nat.le_succ _, HE.out.2.1⟩
end Go.Proofs.YtkkpdgfllnbigaaGreat.Qu
