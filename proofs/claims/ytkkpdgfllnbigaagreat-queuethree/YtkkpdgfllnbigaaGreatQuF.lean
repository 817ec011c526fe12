/-
  queue: First (73).
-/
import Derived.Test.YtkkpdgfllnbigaaGreatMg20
namespace Go.Proofs.YtkkpdgfllnbigaaGreat.Qu
open Go.RowKit Go.Shelf
set_option linter.unusedSimpArgs false
attribute [local go_sem] Oper.semAt_some

def zE : El := ((0, 0, ⟨#[]⟩, 0, 0), ⟨#[]⟩)
/-- The first one, if there is one. -/
def firstE : List El → El × Bool
  | [] => (zE, false)
  | x :: _ => (x, true)
theorem set6 {w : World} {B : Nat} {x0 x1 x2 x3 x4 x5 : Value} {ty : TypeId} (a b c d e f : Value) (h : w.heap[B]? = some (.cells #[x0, x1, x2, x3, x4, x5] ty (0, 0))) : ((((((w.setCell ⟨B, 0, none⟩ a).setCell ⟨B, 1, none⟩ b).setCell ⟨B, 2, none⟩ c).setCell ⟨B, 3, none⟩ d).setCell ⟨B, 4, none⟩ e).setCell ⟨B, 5, none⟩ f).heap[B]? = some (.cells #[a, b, c, d, e, f] ty (0, 0)) ∧ Only (fun j => j = B) w ((((((w.setCell ⟨B, 0, none⟩ a).setCell ⟨B, 1, none⟩ b).setCell ⟨B, 2, none⟩ c).setCell ⟨B, 3, none⟩ d).setCell ⟨B, 4, none⟩ e).setCell ⟨B, 5, none⟩ f) := by
  obtain ⟨h1, o1⟩ := set_one (i := 0) a h
  obtain ⟨h2, o2⟩ := set_one (i := 1) b h1
  obtain ⟨h3, o3⟩ := set_one (i := 2) c h2
  obtain ⟨h4, o4⟩ := set_one (i := 3) d h3
  obtain ⟨h5, o5⟩ := set_one (i := 4) e h4
  obtain ⟨h6, o6⟩ := set_one (i := 5) f h5
  exact ⟨by simpa using h6, ((((o1.next o2).next o3).next o4).next o5).next o6⟩
theorem exec_st53 {ev' : Operand → Value} {x y : Operand} {T : TypeId} {w : World} {B : Nat} {z0 z1 z2 z3 z4 z5 : Value} {g r : Int} {lb : ByteArray} {n ix : Int} {X : ByteArray} (hx : ev' x = .pointer (some ⟨B, 0, none⟩)) (hy : ev' y = ev ((g, r, lb, n, ix), X)) (h : w.heap[B]? = some (.cells #[z0, z1, z2, z3, z4, z5] 53 (0, 0))) : (execOp ev' { dst := none, op := .store 53 x y, type := T, pos := "", after := #[], guard := none }).run Tryz.prog w = .ok .skip ((((((w.setCell ⟨B, 0, none⟩ (.int .i64 g)).setCell ⟨B, 1, none⟩ (.int .i64 r)).setCell ⟨B, 2, none⟩ (.string lb)).setCell ⟨B, 3, none⟩ (.int .i64 n)).setCell ⟨B, 4, none⟩ (.int .i64 ix)).setCell ⟨B, 5, none⟩ (.string X)) := by
  have c0 : w.cell? ⟨B, 0, none⟩ = some z0 := (cell_of_row _ _ 0 _ 53 (0, 0) h).trans rfl
  have c1 : w.cell? ⟨B, 1, none⟩ = some z1 := (cell_of_row _ _ 1 _ 53 (0, 0) h).trans rfl
  have c2 : w.cell? ⟨B, 2, none⟩ = some z2 := (cell_of_row _ _ 2 _ 53 (0, 0) h).trans rfl
  have c3 : w.cell? ⟨B, 3, none⟩ = some z3 := (cell_of_row _ _ 3 _ 53 (0, 0) h).trans rfl
  have c4 : w.cell? ⟨B, 4, none⟩ = some z4 := (cell_of_row _ _ 4 _ 53 (0, 0) h).trans rfl
  have c5 : w.cell? ⟨B, 5, none⟩ = some z5 := (cell_of_row _ _ 5 _ 53 (0, 0) h).trans rfl
  have f0 := frozen_of_row w B 0 _ 53 h
  have f1 := frozen_of_row w B 1 _ 53 h
  have f2 := frozen_of_row w B 2 _ 53 h
  have f3 := frozen_of_row w B 3 _ 53 h
  have f4 := frozen_of_row w B 4 _ 53 h
  have f5 := frozen_of_row w B 5 _ 53 h
  unfold execOp
  simp only [hx, hy, ev]
  go_simp
theorem leave_row_tmp {fn : Func} {tmps : Array Value} {p q : Tmp} {ty : TypeId} (b : Nat) (cs : List Value) {R : Ending → World → Prop} {w : World} (h : fn.results = #[.cell p ty, .tmp q]) (hp : tmps.getD p undef = .pointer (some ⟨b, 0, none⟩)) {v : Value} (hq : tmps.getD q undef = v)
    {d : TypeDesc} (hu : Tryz.prog.underlying ty = some d) (hd : d.isRow = true) (hi : (Tryz.prog.info? ty).map (·.size) = some cs.length) {t : TypeId} {fr : Nat × Nat} (hc : w.heap[b]? = some (.cells cs.toArray t fr))
    (hR : R (.returned (.tuple #[.agg cs.toArray, v])) w) : LeavesInM Fence.wide 6 Tryz.prog fn tmps R [] .returning w := by
  refine leave_none (v := .tuple #[.agg cs.toArray, v]) ?_ hR
  have := run_loadVar_mid (P := Tryz.prog) w b 0 ty cs _ (fun j v hv => by rw [cell_of_row w b (0 + j) cs.toArray t fr hc, Nat.zero_add]; simpa using hv) hu hd hi
  have hp' : tmps[p]?.getD undef = .pointer (some ⟨b, 0, none⟩) := by simpa using hp
  have hq' : tmps[q]?.getD undef = v := by simpa using hq
  simp [results, h, hp', hq', asAddr, Sem.run_bind, Result.andThen, this]
theorem T53 : (Tryz.prog.info? 53).map (·.size) = some 6 := by kernel_rfl
set_option maxHeartbeats 8000000 in
set_option maxRecDepth 100000 in
theorem qFirst_any (t : Pm.T) (w : World) (h : Mg w t) : Calls Tryz.prog 77 #[Pm.mv t] w fun e w' => e = .returned (.tuple #[ev (firstE (elsL t.list)).1, .bool (firstE (elsL t.list)).2]) ∧ Below w.heap.size w w' := by
  have mixed : Tryz.prog.follows .mixedOrders = true := by kernel_rfl
  obtain ⟨xs, hxs⟩ : ∃ xs, xs = elsL t.list := ⟨_, rfl⟩
  rw [← hxs]
  obtain ⟨a, ha⟩ := t.ptr_shape
  obtain ⟨w1, hw1⟩ : ∃ w1, w1 = (((w.alloc (.cells #[.pointer a] 27)).alloc (.cells #[.int .i64 0, .int .i64 0, .string ⟨#[]⟩, .int .i64 0, .int .i64 0, .string ⟨#[]⟩] 53)).alloc (.cells #[.int .i64 0, .int .i64 0, .string ⟨#[]⟩, .int .i64 0, .int .i64 0, .string ⟨#[]⟩] 53)).alloc (.cells #[.bool false] 4) := ⟨_, rfl⟩
  have hn := Pm.new4 w (.cells #[.pointer a] 27) (.cells #[.int .i64 0, .int .i64 0, .string ⟨#[]⟩, .int .i64 0, .int .i64 0, .string ⟨#[]⟩] 53) (.cells #[.int .i64 0, .int .i64 0, .string ⟨#[]⟩, .int .i64 0, .int .i64 0, .string ⟨#[]⟩] 53) (.cells #[.bool false] 4)
  rw [← hw1] at hn
  obtain ⟨m0, m1, m2, m3, b1⟩ := hn
  have s1 : w1.heap.size = w.heap.size + 4 := by rw [hw1]; simp
  obtain ⟨wA, hwA⟩ : ∃ wA, wA = w1.alloc (.cells #[t.ptr] 27) := ⟨_, rfl⟩
  have hAll := rAll_any t w1
  rw [← hwA] at hAll
  have sA : wA.heap.size = w.heap.size + 5 := by rw [hwA]; simp [s1]
  have bA : Below w1.heap.size w1 wA := by rw [hwA]; exact (Below.refl _ w1).alloc (Nat.le_refl _) _
  have bWA : Below w.heap.size w wA := b1.trans (bA.mono b1.size)
  have cL : wA.cell? ⟨w1.heap.size, 0, none⟩ = some t.ptr := by rw [hwA]; exact (cell_of_row _ _ 0 _ 27 (0, 0) (heap_alloc_new w1 _)).trans rfl
  have hit := iterAll t w1.heap.size wA (Pm.In.below bWA h.inn) h.srt h.key cL
  rw [← hxs] at hit
  obtain ⟨Mb, hMb⟩ : ∃ q, q = w.heap.size := ⟨_, rfl⟩
  obtain ⟨Rb, hRb⟩ : ∃ q, q = w.heap.size + 1 := ⟨_, rfl⟩
  obtain ⟨Fb, hFb⟩ : ∃ q, q = w.heap.size + 1 + 1 := ⟨_, rfl⟩
  obtain ⟨Hb, hHb⟩ : ∃ q, q = w.heap.size + 1 + 1 + 1 := ⟨_, rfl⟩
  have HZ : Hid (Mb = w.heap.size ∧ Rb = w.heap.size + 1 ∧ Fb = w.heap.size + 2 ∧ Hb = w.heap.size + 3 ∧ w1.heap.size = w.heap.size + 4 ∧ wA.heap.size = w.heap.size + 5) := hide ⟨hMb, hRb, hFb, hHb, s1, sA⟩
  rw [← hRb] at m1
  rw [← hFb] at m2
  rw [← hHb] at m3
  have m1A := (bA.block _ (Array.getElem?_eq_some_iff.1 m1).1).trans m1
  have m2A := (bA.block _ (Array.getElem?_eq_some_iff.1 m2).1).trans m2
  have m3A := (bA.block _ (Array.getElem?_eq_some_iff.1 m3).1).trans m3
  have hKlt : ∀ j, KA t w1.heap.size j → j < wA.heap.size ∧ j ≠ Fb ∧ j ≠ Hb := fun j hj => by
    rcases hj with rfl | hj
    · omega
    · have := h.inn.blk_lt hj; omega
  have c0 : w1.cell? ⟨w.heap.size, 0, none⟩ = some (.pointer a) := (cell_of_row _ _ 0 _ 27 (0, 0) m0).trans rfl
  have hne : (Fb ≠ Rb) ∧ (Hb ≠ Rb) := by omega
  -- what an end leaves
  have fin : ∀ (bb : Bool) (W W' : World) (y : El), W.heap[wA.heap.size]? = some (.deferred (some [])) → Below w.heap.size w W → W.heap[Rb]? = some (.cells #[.int .i64 0, .int .i64 0, .string ⟨#[]⟩, .int .i64 0, .int .i64 0, .string ⟨#[]⟩] 53 (0, 0)) → True → True → firstE xs = (y, bb) → True := fun _ _ _ _ _ _ _ _ _ _ => trivial
  clear fin
  have FIN : Hid (∀ (bb : Bool) (W : World) (W' : World) (y : El), W.heap[wA.heap.size]? = some (.deferred (some [])) → Below w.heap.size w W → W'.heap[Rb]? = some (.cells (encE y).toArray 53 (0, 0)) → Only (fun j => j = Rb) W W' → firstE xs = (y, bb) → ∀ tmps : Array Value, tmps.getD 2 undef = .pointer (some ⟨Rb, 0, none⟩) → tmps.getD 3 undef = .bool bb → LeavesInM Fence.wide 6 Tryz.prog Tryz.f77 tmps (fun e w' => e = .returned (.tuple #[ev (firstE xs).1, .bool (firstE xs).2]) ∧ Below w.heap.size w w') ({ target := .collected wA.heap.size, args := #[] } :: []) .returning W') := hide (fun bb W W' y kW bW u6 o6 hyb tmps h2 h3 => by
    have hz := HZ.out
    have o1 := only_putObj W' wA.heap.size (.deferred none)
    have k6 := (o6.block _ (Array.getElem?_eq_some_iff.1 kW).1 (fun e => by have e' : wA.heap.size = Rb := e; omega)).trans kW
    have b6 := Below.only bW o6 bW.size (fun j e => by have e' : j = Rb := e; omega)
    have b7 := Below.only b6 o1 b6.size (fun j e => by have e' : j = wA.heap.size := e; omega)
    have u7 := (o1.block _ (Array.getElem?_eq_some_iff.1 u6).1 (fun e => by have e' : Rb = wA.heap.size := e; omega)).trans u6
    refine leave_mark k6 (leave_row_tmp Rb (encE y) rfl h2 h3 Tryz.underlying53 rfl T53 u7 ?_)
    rw [hyb]
    exact ⟨rfl, b7⟩)
  have HA : Hid (wA.heap[Rb]? = some (.cells #[.int .i64 0, .int .i64 0, .string ⟨#[]⟩, .int .i64 0, .int .i64 0, .string ⟨#[]⟩] 53 (0, 0)) ∧ wA.heap[Fb]? = some (.cells #[.int .i64 0, .int .i64 0, .string ⟨#[]⟩, .int .i64 0, .int .i64 0, .string ⟨#[]⟩] 53 (0, 0)) ∧ wA.heap[Hb]? = some (.cells #[.bool false] 4 (0, 0)) ∧ Below w.heap.size w wA) := hide ⟨m1A, m2A, m3A, bWA⟩
  have HW1 := hide hw1
  have HK := hide hKlt
  have HIT := hide hit
  unfold Pm.mv at hAll ⊢
  rw [ha] at hAll ⊢
  clear m0 m1 m2 m3 b1 s1 sA bA bWA cL hw1 hwA hMb hRb hFb hHb m1A m2A m3A hKlt hit h ha hxs
  refine calls_marks Tryz.func77 rfl ?_
  simp only [Tryz.ntmps77, List.size_toArray, List.length_cons, List.length_nil, Nat.reduceAdd, Nat.reduceSub, Array.replicate_succ, Array.replicate_zero, List.push_toArray, List.append_toArray, List.nil_append, List.cons_append]
  go_wp2
  refine wp_scope_straight ?_
  go_wp2
  refine wp_label ?_
  rw [← HW1.out]
  go_wp2_with (first | (refine wp_label ?_) | (go_at_call 81; refine hAll.mono ?_; rintro e w' ⟨rfl, hw'⟩; obtain rfl : wA = w' := hw'.symm; clear hw'; dsimp only))
  clear hAll c0 HW1
  refine range_ib (Q := _) 154 enters154 _ xs encS _ HIT.out rfl (fun _ _ => rfl) (fun j hj => (HK.out j hj).1) (fun j => j = Fb ∨ j = Hb) (fun j e hj => e.elim (HK.out j hj).2.1 (HK.out j hj).2.2) (fun j e => by have := HZ.out; have e' : j = Fb ∨ j = Hb := e; omega)
    (fun B k W => k = 0 ∧ Only (fun j => wA.heap.size ≤ j) wA W) (fun _ cd W => cd = .exit 0 ∧ ∃ x, xs[0]? = some x ∧ Only (fun j => j = Fb ∨ j = Hb ∨ wA.heap.size ≤ j) wA W ∧ W.heap[Fb]? = some (.cells (encE x).toArray 53 (0, 0)) ∧ W.heap[Hb]? = some (.cells #[.bool true] 4 (0, 0)))
    (fun B k W W' hB hi ho => ⟨hi.1, hi.2.trans ho (fun j _ e => by have e' : wA.heap.size + 1 ≤ j ∧ j < B := e; show wA.heap.size ≤ j; omega)⟩)
    (fun B cd W W' hB hi ho => by
      obtain ⟨h1, x, h2, h3, h4, h5⟩ := hi
      have hz := HZ.out
      exact ⟨h1, x, h2, h3.trans ho (fun j _ e => by have e' : wA.heap.size + 1 ≤ j ∧ j < B := e; show j = Fb ∨ j = Hb ∨ wA.heap.size ≤ j; omega), (ho.block _ (Array.getElem?_eq_some_iff.1 h4).1 (fun e => by have e' : wA.heap.size + 1 ≤ Fb ∧ Fb < B := e; omega)).trans h4, (ho.block _ (Array.getElem?_eq_some_iff.1 h5).1 (fun e => by have e' : wA.heap.size + 1 ≤ Hb ∧ Hb < B := e; omega)).trans h5⟩)
    (fun B W hb hB => ⟨rfl, below_only hb⟩) ?hround ?hdone ?hstop
  case hdone =>
    rintro B W hB ⟨hx0, hi⟩ hlt kW
    have hxn : xs = [] := List.length_eq_zero_iff.1 hx0
    obtain ⟨q1, q2, q3, q4⟩ := HA.out
    have hz := HZ.out
    have rR := (hi.block _ (by omega) (fun e => by have e' : wA.heap.size ≤ Rb := e; omega)).trans q1
    have fF := (hi.block _ (by omega) (fun e => by have e' : wA.heap.size ≤ Fb := e; omega)).trans q2
    have hH := (hi.block _ (by omega) (fun e => by have e' : wA.heap.size ≤ Hb := e; omega)).trans q3
    have bW : Below w.heap.size w W := Below.only q4 hi q4.size (fun j e => by have e' : wA.heap.size ≤ j := e; omega)
    have hyb : firstE xs = (zE, false) := by rw [hxn]; rfl
    clear hi q1 q2 q3 q4 hz hxn hx0 HIT HK HA
    obtain ⟨y, hy⟩ : ∃ y, y = zE := ⟨_, rfl⟩
    obtain ⟨bb, hbb⟩ : ∃ b, b = false := ⟨_, rfl⟩
    obtain ⟨g, r, lb, n, ix, X, hyy⟩ : ∃ g r lb n ix X, y = ((g, r, lb, n, ix), X) := ⟨_, _, _, _, _, _, rfl⟩
    have fF' : W.heap[Fb]? = some (.cells (encE y).toArray 53 (0, 0)) := by rw [hy]; exact fF
    rw [← hy, ← hbb] at hyb
    rw [← hbb] at hH
    clear hy hbb fF
    have fF := fF'
    clear fF'
    subst hyy
    have en1 : w.heap.size + 1 = Rb := by have := HZ.out; omega
    have en2 : Rb + 1 = Fb := by have := HZ.out; omega
    have en3 : Fb + 1 = Hb := by have := HZ.out; omega
    rw [en1, en2, en3]
    clear en1 en2 en3
    go_wp2
    have qd : (W.drew.cell? ⟨Fb, 0, none⟩ = some (.int .i64 g) ∧ W.drew.cell? ⟨Fb, 1, none⟩ = some (.int .i64 r) ∧ W.drew.cell? ⟨Fb, 2, none⟩ = some (.string lb) ∧ W.drew.cell? ⟨Fb, 3, none⟩ = some (.int .i64 n) ∧ W.drew.cell? ⟨Fb, 4, none⟩ = some (.int .i64 ix) ∧ W.drew.cell? ⟨Fb, 5, none⟩ = some (.string X)) ∧ W.drew.cell? ⟨Hb, 0, none⟩ = some (.bool bb) := ⟨⟨(cell_of_row W.drew _ 0 _ 53 (0, 0) fF).trans rfl, (cell_of_row W.drew _ 1 _ 53 (0, 0) fF).trans rfl, (cell_of_row W.drew _ 2 _ 53 (0, 0) fF).trans rfl, (cell_of_row W.drew _ 3 _ 53 (0, 0) fF).trans rfl, (cell_of_row W.drew _ 4 _ 53 (0, 0) fF).trans rfl, (cell_of_row W.drew _ 5 _ 53 (0, 0) fF).trans rfl⟩, (cell_of_row W.drew _ 0 _ 4 (0, 0) hH).trans rfl⟩
    obtain ⟨u6, o6⟩ := set6 (.int .i64 g) (.int .i64 r) (.string lb) (.int .i64 n) (.int .i64 ix) (.string X) (w := W.drew) rR
    have ex6 := fun (ev' : Operand → Value) (x y : Operand) (T : TypeId) (h1 : ev' x = .pointer (some ⟨Rb, 0, none⟩)) (h2 : ev' y = ev ((g, r, lb, n, ix), X)) => exec_st53 (T := T) h1 h2 (w := W.drew) rR
    have hL := FIN.out bb W _ ((g, r, lb, n, ix), X) kW bW u6 ((below_only (drew_below W)).next o6) hyb
    clear rR fF hH kW bW
    refine wp_region_held_drew (S := fun w' => (w'.cell? ⟨Fb, 0, none⟩ = some (.int .i64 g) ∧ w'.cell? ⟨Fb, 1, none⟩ = some (.int .i64 r) ∧ w'.cell? ⟨Fb, 2, none⟩ = some (.string lb) ∧ w'.cell? ⟨Fb, 3, none⟩ = some (.int .i64 n) ∧ w'.cell? ⟨Fb, 4, none⟩ = some (.int .i64 ix) ∧ w'.cell? ⟨Fb, 5, none⟩ = some (.string X)) ∧ w'.cell? ⟨Hb, 0, none⟩ = some (.bool bb)) (by kernel_rfl) qd (fun hHeld => ?_)
    clear qd
    refine take_op (i := 0) (d := 15) (OP := Op.load 53 (Operand.tmp 4)) (T := 53) (v := ?vzf1) rfl rfl rfl rfl (by kernel_rfl) (by kernel_rfl) (by kernel_rfl) (fun _ _ _ h => h) (by rfl) ?hzf1 hHeld ?rzf1
    case hzf1 => (intro w' hSw; (try dsimp only at hSw); go_simp <;> with_reducible rfl)
    try simp only [Act.put, List.setIfInBounds_toArray, List.set_cons_zero, List.set_cons_succ]
    refine take_op (i := 1) (d := 16) (OP := Op.load 4 (Operand.tmp 5)) (T := 4) (v := ?vzf2) rfl rfl rfl rfl (by kernel_rfl) (by kernel_rfl) (by kernel_rfl) (fun _ _ _ h => h) (by rfl) ?hzf2 hHeld ?rzf2
    case hzf2 => (intro w' hSw; (try dsimp only at hSw); go_simp <;> with_reducible rfl)
    try simp only [Act.put, List.setIfInBounds_toArray, List.set_cons_zero, List.set_cons_succ]
    refine skip_op (i := 2) (OP := Op.store 53 (Operand.tmp 2) (Operand.tmp 15)) (T := 0) (w' := ((((((W.drew.setCell ⟨Rb, 0, none⟩ (.int .i64 g)).setCell ⟨Rb, 1, none⟩ (.int .i64 r)).setCell ⟨Rb, 2, none⟩ (.string lb)).setCell ⟨Rb, 3, none⟩ (.int .i64 n)).setCell ⟨Rb, 4, none⟩ (.int .i64 ix)).setCell ⟨Rb, 5, none⟩ (.string X))) rfl rfl rfl rfl (by kernel_rfl) (by rfl) (ex6 _ _ _ _ rfl rfl) ⟨⟨⟨o6.cell hHeld.1.1 hne.1, o6.cell hHeld.1.2.1 hne.1, o6.cell hHeld.1.2.2.1 hne.1, o6.cell hHeld.1.2.2.2.1 hne.1, o6.cell hHeld.1.2.2.2.2.1 hne.1, o6.cell hHeld.1.2.2.2.2.2 hne.1⟩, o6.cell hHeld.2 hne.2⟩, ?_⟩
    try simp only [Act.put, List.setIfInBounds_toArray, List.set_cons_zero, List.set_cons_succ]
    have hS2 : (((((((W.drew.setCell ⟨Rb, 0, none⟩ (.int .i64 g)).setCell ⟨Rb, 1, none⟩ (.int .i64 r)).setCell ⟨Rb, 2, none⟩ (.string lb)).setCell ⟨Rb, 3, none⟩ (.int .i64 n)).setCell ⟨Rb, 4, none⟩ (.int .i64 ix)).setCell ⟨Rb, 5, none⟩ (.string X)).cell? ⟨Fb, 0, none⟩ = some (.int .i64 g) ∧ ((((((W.drew.setCell ⟨Rb, 0, none⟩ (.int .i64 g)).setCell ⟨Rb, 1, none⟩ (.int .i64 r)).setCell ⟨Rb, 2, none⟩ (.string lb)).setCell ⟨Rb, 3, none⟩ (.int .i64 n)).setCell ⟨Rb, 4, none⟩ (.int .i64 ix)).setCell ⟨Rb, 5, none⟩ (.string X)).cell? ⟨Fb, 1, none⟩ = some (.int .i64 r) ∧ ((((((W.drew.setCell ⟨Rb, 0, none⟩ (.int .i64 g)).setCell ⟨Rb, 1, none⟩ (.int .i64 r)).setCell ⟨Rb, 2, none⟩ (.string lb)).setCell ⟨Rb, 3, none⟩ (.int .i64 n)).setCell ⟨Rb, 4, none⟩ (.int .i64 ix)).setCell ⟨Rb, 5, none⟩ (.string X)).cell? ⟨Fb, 2, none⟩ = some (.string lb) ∧ ((((((W.drew.setCell ⟨Rb, 0, none⟩ (.int .i64 g)).setCell ⟨Rb, 1, none⟩ (.int .i64 r)).setCell ⟨Rb, 2, none⟩ (.string lb)).setCell ⟨Rb, 3, none⟩ (.int .i64 n)).setCell ⟨Rb, 4, none⟩ (.int .i64 ix)).setCell ⟨Rb, 5, none⟩ (.string X)).cell? ⟨Fb, 3, none⟩ = some (.int .i64 n) ∧ ((((((W.drew.setCell ⟨Rb, 0, none⟩ (.int .i64 g)).setCell ⟨Rb, 1, none⟩ (.int .i64 r)).setCell ⟨Rb, 2, none⟩ (.string lb)).setCell ⟨Rb, 3, none⟩ (.int .i64 n)).setCell ⟨Rb, 4, none⟩ (.int .i64 ix)).setCell ⟨Rb, 5, none⟩ (.string X)).cell? ⟨Fb, 4, none⟩ = some (.int .i64 ix) ∧ ((((((W.drew.setCell ⟨Rb, 0, none⟩ (.int .i64 g)).setCell ⟨Rb, 1, none⟩ (.int .i64 r)).setCell ⟨Rb, 2, none⟩ (.string lb)).setCell ⟨Rb, 3, none⟩ (.int .i64 n)).setCell ⟨Rb, 4, none⟩ (.int .i64 ix)).setCell ⟨Rb, 5, none⟩ (.string X)).cell? ⟨Fb, 5, none⟩ = some (.string X)) ∧ ((((((W.drew.setCell ⟨Rb, 0, none⟩ (.int .i64 g)).setCell ⟨Rb, 1, none⟩ (.int .i64 r)).setCell ⟨Rb, 2, none⟩ (.string lb)).setCell ⟨Rb, 3, none⟩ (.int .i64 n)).setCell ⟨Rb, 4, none⟩ (.int .i64 ix)).setCell ⟨Rb, 5, none⟩ (.string X)).cell? ⟨Hb, 0, none⟩ = some (.bool bb) := ⟨⟨o6.cell hHeld.1.1 hne.1, o6.cell hHeld.1.2.1 hne.1, o6.cell hHeld.1.2.2.1 hne.1, o6.cell hHeld.1.2.2.2.1 hne.1, o6.cell hHeld.1.2.2.2.2.1 hne.1, o6.cell hHeld.1.2.2.2.2.2 hne.1⟩, o6.cell hHeld.2 hne.2⟩
    refine take_op (i := 3) (d := 3) (OP := Op.assign (Operand.tmp 16)) (T := 4) (v := ?vzf3) rfl rfl rfl rfl (by kernel_rfl) (by kernel_rfl) (by kernel_rfl) (fun _ _ _ h => h) (by rfl) ?hzf3 hS2 ?rzf3
    case hzf3 => (intro w' hSw; (try dsimp only at hSw); go_simp <;> with_reducible rfl)
    try simp only [Act.put, List.setIfInBounds_toArray, List.set_cons_zero, List.set_cons_succ]
    refine wpAnyH_done (by kernel_rfl) ?_ _
    have HLL := hide hL
    clear hL hS2 hHeld u6 o6 ex6
    go_wp2
    refine noGoto_ret ?_
    exact HLL.out _ rfl rfl
  case hstop =>
    rintro B cd W hB ⟨rfl, y, hx0, hi, fF, hH⟩ hlt kW
    obtain ⟨q1, q2, q3, q4⟩ := HA.out
    have hz := HZ.out
    have rR := (hi.block _ (by omega) (fun e => by have e' : Rb = Fb ∨ Rb = Hb ∨ wA.heap.size ≤ Rb := e; omega)).trans q1
    have bW : Below w.heap.size w W := Below.only q4 hi q4.size (fun j e => by have e' : j = Fb ∨ j = Hb ∨ wA.heap.size ≤ j := e; omega)
    obtain ⟨bb, hbb⟩ : ∃ b, b = true := ⟨_, rfl⟩
    have hyb : firstE xs = (y, bb) := by
      rw [hbb]
      cases xs with
      | nil => cases hx0
      | cons z l => simp at hx0; rw [hx0]; rfl
    rw [← hbb] at hH
    obtain ⟨⟨g, r, lb, n, ix⟩, X⟩ := y
    clear hi q1 q2 q3 q4 hz hx0 HIT HK HA hbb
    have en1 : w.heap.size + 1 = Rb := by have := HZ.out; omega
    have en2 : Rb + 1 = Fb := by have := HZ.out; omega
    have en3 : Fb + 1 = Hb := by have := HZ.out; omega
    rw [en1, en2, en3]
    clear en1 en2 en3
    go_wp2
    have qd : (W.drew.cell? ⟨Fb, 0, none⟩ = some (.int .i64 g) ∧ W.drew.cell? ⟨Fb, 1, none⟩ = some (.int .i64 r) ∧ W.drew.cell? ⟨Fb, 2, none⟩ = some (.string lb) ∧ W.drew.cell? ⟨Fb, 3, none⟩ = some (.int .i64 n) ∧ W.drew.cell? ⟨Fb, 4, none⟩ = some (.int .i64 ix) ∧ W.drew.cell? ⟨Fb, 5, none⟩ = some (.string X)) ∧ W.drew.cell? ⟨Hb, 0, none⟩ = some (.bool bb) := ⟨⟨(cell_of_row W.drew _ 0 _ 53 (0, 0) fF).trans rfl, (cell_of_row W.drew _ 1 _ 53 (0, 0) fF).trans rfl, (cell_of_row W.drew _ 2 _ 53 (0, 0) fF).trans rfl, (cell_of_row W.drew _ 3 _ 53 (0, 0) fF).trans rfl, (cell_of_row W.drew _ 4 _ 53 (0, 0) fF).trans rfl, (cell_of_row W.drew _ 5 _ 53 (0, 0) fF).trans rfl⟩, (cell_of_row W.drew _ 0 _ 4 (0, 0) hH).trans rfl⟩
    obtain ⟨u6, o6⟩ := set6 (.int .i64 g) (.int .i64 r) (.string lb) (.int .i64 n) (.int .i64 ix) (.string X) (w := W.drew) rR
    have ex6 := fun (ev' : Operand → Value) (x y : Operand) (T : TypeId) (h1 : ev' x = .pointer (some ⟨Rb, 0, none⟩)) (h2 : ev' y = ev ((g, r, lb, n, ix), X)) => exec_st53 (T := T) h1 h2 (w := W.drew) rR
    have hL := FIN.out bb W _ ((g, r, lb, n, ix), X) kW bW u6 ((below_only (drew_below W)).next o6) hyb
    clear rR fF hH kW bW
    refine wp_region_held_drew (S := fun w' => (w'.cell? ⟨Fb, 0, none⟩ = some (.int .i64 g) ∧ w'.cell? ⟨Fb, 1, none⟩ = some (.int .i64 r) ∧ w'.cell? ⟨Fb, 2, none⟩ = some (.string lb) ∧ w'.cell? ⟨Fb, 3, none⟩ = some (.int .i64 n) ∧ w'.cell? ⟨Fb, 4, none⟩ = some (.int .i64 ix) ∧ w'.cell? ⟨Fb, 5, none⟩ = some (.string X)) ∧ w'.cell? ⟨Hb, 0, none⟩ = some (.bool bb)) (by kernel_rfl) qd (fun hHeld => ?_)
    clear qd
    refine take_op (i := 0) (d := 15) (OP := Op.load 53 (Operand.tmp 4)) (T := 53) (v := ?vzf4) rfl rfl rfl rfl (by kernel_rfl) (by kernel_rfl) (by kernel_rfl) (fun _ _ _ h => h) (by rfl) ?hzf4 hHeld ?rzf4
    case hzf4 => (intro w' hSw; (try dsimp only at hSw); go_simp <;> with_reducible rfl)
    try simp only [Act.put, List.setIfInBounds_toArray, List.set_cons_zero, List.set_cons_succ]
    refine take_op (i := 1) (d := 16) (OP := Op.load 4 (Operand.tmp 5)) (T := 4) (v := ?vzf5) rfl rfl rfl rfl (by kernel_rfl) (by kernel_rfl) (by kernel_rfl) (fun _ _ _ h => h) (by rfl) ?hzf5 hHeld ?rzf5
    case hzf5 => (intro w' hSw; (try dsimp only at hSw); go_simp <;> with_reducible rfl)
    try simp only [Act.put, List.setIfInBounds_toArray, List.set_cons_zero, List.set_cons_succ]
    refine skip_op (i := 2) (OP := Op.store 53 (Operand.tmp 2) (Operand.tmp 15)) (T := 0) (w' := ((((((W.drew.setCell ⟨Rb, 0, none⟩ (.int .i64 g)).setCell ⟨Rb, 1, none⟩ (.int .i64 r)).setCell ⟨Rb, 2, none⟩ (.string lb)).setCell ⟨Rb, 3, none⟩ (.int .i64 n)).setCell ⟨Rb, 4, none⟩ (.int .i64 ix)).setCell ⟨Rb, 5, none⟩ (.string X))) rfl rfl rfl rfl (by kernel_rfl) (by rfl) (ex6 _ _ _ _ rfl rfl) ⟨⟨⟨o6.cell hHeld.1.1 hne.1, o6.cell hHeld.1.2.1 hne.1, o6.cell hHeld.1.2.2.1 hne.1, o6.cell hHeld.1.2.2.2.1 hne.1, o6.cell hHeld.1.2.2.2.2.1 hne.1, o6.cell hHeld.1.2.2.2.2.2 hne.1⟩, o6.cell hHeld.2 hne.2⟩, ?_⟩
    try simp only [Act.put, List.setIfInBounds_toArray, List.set_cons_zero, List.set_cons_succ]
    have hS2 : (((((((W.drew.setCell ⟨Rb, 0, none⟩ (.int .i64 g)).setCell ⟨Rb, 1, none⟩ (.int .i64 r)).setCell ⟨Rb, 2, none⟩ (.string lb)).setCell ⟨Rb, 3, none⟩ (.int .i64 n)).setCell ⟨Rb, 4, none⟩ (.int .i64 ix)).setCell ⟨Rb, 5, none⟩ (.string X)).cell? ⟨Fb, 0, none⟩ = some (.int .i64 g) ∧ ((((((W.drew.setCell ⟨Rb, 0, none⟩ (.int .i64 g)).setCell ⟨Rb, 1, none⟩ (.int .i64 r)).setCell ⟨Rb, 2, none⟩ (.string lb)).setCell ⟨Rb, 3, none⟩ (.int .i64 n)).setCell ⟨Rb, 4, none⟩ (.int .i64 ix)).setCell ⟨Rb, 5, none⟩ (.string X)).cell? ⟨Fb, 1, none⟩ = some (.int .i64 r) ∧ ((((((W.drew.setCell ⟨Rb, 0, none⟩ (.int .i64 g)).setCell ⟨Rb, 1, none⟩ (.int .i64 r)).setCell ⟨Rb, 2, none⟩ (.string lb)).setCell ⟨Rb, 3, none⟩ (.int .i64 n)).setCell ⟨Rb, 4, none⟩ (.int .i64 ix)).setCell ⟨Rb, 5, none⟩ (.string X)).cell? ⟨Fb, 2, none⟩ = some (.string lb) ∧ ((((((W.drew.setCell ⟨Rb, 0, none⟩ (.int .i64 g)).setCell ⟨Rb, 1, none⟩ (.int .i64 r)).setCell ⟨Rb, 2, none⟩ (.string lb)).setCell ⟨Rb, 3, none⟩ (.int .i64 n)).setCell ⟨Rb, 4, none⟩ (.int .i64 ix)).setCell ⟨Rb, 5, none⟩ (.string X)).cell? ⟨Fb, 3, none⟩ = some (.int .i64 n) ∧ ((((((W.drew.setCell ⟨Rb, 0, none⟩ (.int .i64 g)).setCell ⟨Rb, 1, none⟩ (.int .i64 r)).setCell ⟨Rb, 2, none⟩ (.string lb)).setCell ⟨Rb, 3, none⟩ (.int .i64 n)).setCell ⟨Rb, 4, none⟩ (.int .i64 ix)).setCell ⟨Rb, 5, none⟩ (.string X)).cell? ⟨Fb, 4, none⟩ = some (.int .i64 ix) ∧ ((((((W.drew.setCell ⟨Rb, 0, none⟩ (.int .i64 g)).setCell ⟨Rb, 1, none⟩ (.int .i64 r)).setCell ⟨Rb, 2, none⟩ (.string lb)).setCell ⟨Rb, 3, none⟩ (.int .i64 n)).setCell ⟨Rb, 4, none⟩ (.int .i64 ix)).setCell ⟨Rb, 5, none⟩ (.string X)).cell? ⟨Fb, 5, none⟩ = some (.string X)) ∧ ((((((W.drew.setCell ⟨Rb, 0, none⟩ (.int .i64 g)).setCell ⟨Rb, 1, none⟩ (.int .i64 r)).setCell ⟨Rb, 2, none⟩ (.string lb)).setCell ⟨Rb, 3, none⟩ (.int .i64 n)).setCell ⟨Rb, 4, none⟩ (.int .i64 ix)).setCell ⟨Rb, 5, none⟩ (.string X)).cell? ⟨Hb, 0, none⟩ = some (.bool bb) := ⟨⟨o6.cell hHeld.1.1 hne.1, o6.cell hHeld.1.2.1 hne.1, o6.cell hHeld.1.2.2.1 hne.1, o6.cell hHeld.1.2.2.2.1 hne.1, o6.cell hHeld.1.2.2.2.2.1 hne.1, o6.cell hHeld.1.2.2.2.2.2 hne.1⟩, o6.cell hHeld.2 hne.2⟩
    refine take_op (i := 3) (d := 3) (OP := Op.assign (Operand.tmp 16)) (T := 4) (v := ?vzf6) rfl rfl rfl rfl (by kernel_rfl) (by kernel_rfl) (by kernel_rfl) (fun _ _ _ h => h) (by rfl) ?hzf6 hS2 ?rzf6
    case hzf6 => (intro w' hSw; (try dsimp only at hSw); go_simp <;> with_reducible rfl)
    try simp only [Act.put, List.setIfInBounds_toArray, List.set_cons_zero, List.set_cons_succ]
    refine wpAnyH_done (by kernel_rfl) ?_ _
    have HLL := hide hL
    clear hL hS2 hHeld u6 o6 ex6
    go_wp2
    refine noGoto_ret ?_
    exact HLL.out _ rfl rfl
  case hround =>
    rintro B k ⟨s, X⟩ W hB hx ⟨hk0, hi⟩ hSame hsz
    subst hk0
    obtain ⟨g, r, lb, n, ix⟩ := s
    obtain ⟨q1, q2, q3, q4⟩ := HA.out
    have hz := HZ.out
    have fF := (hi.block _ (by omega) (fun e => by have e' : wA.heap.size ≤ Fb := e; omega)).trans q2
    have hH := (hi.block _ (by omega) (fun e => by have e' : wA.heap.size ≤ Hb := e; omega)).trans q3
    clear hz
    dsimp only [encS, svT]
    have en1 : w.heap.size + 1 = Rb := by have := HZ.out; omega
    have en2 : Rb + 1 = Fb := by have := HZ.out; omega
    have en3 : Fb + 1 = Hb := by have := HZ.out; omega
    rw [en1, en2, en3]
    clear en1 en2 en3
    gi_wp2
    have hz := HZ.out
    obtain ⟨W1, hW1⟩ : ∃ W1, W1 = W.alloc (.cells #[.int .i64 g, .int .i64 r, .string lb, .int .i64 n, .int .i64 ix] 43) := ⟨_, rfl⟩
    have r1 := heap_alloc_new W (.cells #[.int .i64 g, .int .i64 r, .string lb, .int .i64 n, .int .i64 ix] 43)
    have b1 : Below W.heap.size W W1 := by rw [hW1]; exact (Below.refl _ W).alloc (Nat.le_refl _) _
    rw [← hW1] at r1 ⊢
    refine ⟨below_only b1, fun W2 ho2 => ?_⟩
    have on2 : Only (fun j => wA.heap.size ≤ j) wA W2 := (hi.next (below_only b1)).trans ho2 (fun j hj e => by have e' : j = wA.heap.size + 1 := e; show wA.heap.size ≤ j; omega)
    have r2 := (ho2.block _ (Array.getElem?_eq_some_iff.1 r1).1 (fun e => by have e' : W.heap.size = wA.heap.size + 1 := e; omega)).trans r1
    have fF2 := (on2.block _ (by omega) (fun e => by have e' : wA.heap.size ≤ Fb := e; omega)).trans q2
    have hH2 := (on2.block _ (by omega) (fun e => by have e' : wA.heap.size ≤ Hb := e; omega)).trans q3
    obtain ⟨Sb, hSb⟩ : ∃ q, q = W.heap.size := ⟨_, rfl⟩
    rw [← hSb] at r2 ⊢
    have HS : Hid (wA.heap.size ≤ Sb ∧ Sb < W2.heap.size ∧ B ≤ Sb) := hide ⟨by omega, (Array.getElem?_eq_some_iff.1 r2).1, by omega⟩
    have y0 : W2.cell? ⟨Sb, 0, none⟩ = some (.int .i64 g) := (cell_of_row _ _ 0 _ 43 (0, 0) r2).trans rfl
    have y1 : W2.cell? ⟨Sb, 1, none⟩ = some (.int .i64 r) := (cell_of_row _ _ 1 _ 43 (0, 0) r2).trans rfl
    have y2 : W2.cell? ⟨Sb, 2, none⟩ = some (.string lb) := (cell_of_row _ _ 2 _ 43 (0, 0) r2).trans rfl
    have y3 : W2.cell? ⟨Sb, 3, none⟩ = some (.int .i64 n) := (cell_of_row _ _ 3 _ 43 (0, 0) r2).trans rfl
    have y4 : W2.cell? ⟨Sb, 4, none⟩ = some (.int .i64 ix) := (cell_of_row _ _ 4 _ 43 (0, 0) r2).trans rfl
    have hT := tell123 (g, r, lb, n, ix) X W2
    dsimp only [svT, ev] at hT
    have HX := hide (And.intro hx (And.intro on2 (And.intro fF2 hH2)))
    have after : ∀ W3, Below W2.heap.size W2 W3 → (W3.heap[Fb]? = some (.cells #[.int .i64 0, .int .i64 0, .string ⟨#[]⟩, .int .i64 0, .int .i64 0, .string ⟨#[]⟩] 53 (0, 0)) ∧ W3.heap[Hb]? = some (.cells #[.bool false] 4 (0, 0)) ∧ Only (fun j => j = Fb ∨ j = Hb ∨ wA.heap.size ≤ j) wA W3) := fun W3 h3 => ⟨(h3.block _ (Array.getElem?_eq_some_iff.1 fF2).1).trans fF2, (h3.block _ (Array.getElem?_eq_some_iff.1 hH2).1).trans hH2, (on2.next (below_only h3)).mono (fun j _ e => .inr (.inr e))⟩
    have HAF := hide after
    clear fF hH q1 q2 q3 q4 hi r1 b1 hW1 ho2 on2 r2 fF2 hH2 hSb hsz hSame hx after HIT HK HA FIN hz
    have step : ∀ W3, Below W2.heap.size W2 W3 → ∃ (_ : True), (W3.cell? ⟨Fb, 0, none⟩ = some (.int .i64 0) ∧ W3.cell? ⟨Fb, 1, none⟩ = some (.int .i64 0) ∧ W3.cell? ⟨Fb, 2, none⟩ = some (.string ⟨#[]⟩) ∧ W3.cell? ⟨Fb, 3, none⟩ = some (.int .i64 0) ∧ W3.cell? ⟨Fb, 4, none⟩ = some (.int .i64 0) ∧ W3.cell? ⟨Fb, 5, none⟩ = some (.string ⟨#[]⟩) ∧ (∀ k, W3.frozen? ⟨Fb, k, none⟩ = false) ∧ ((((((W3.setCell ⟨Fb, 0, none⟩ (.int .i64 g)).setCell ⟨Fb, 1, none⟩ (.int .i64 r)).setCell ⟨Fb, 2, none⟩ (.string lb)).setCell ⟨Fb, 3, none⟩ (.int .i64 n)).setCell ⟨Fb, 4, none⟩ (.int .i64 ix)).setCell ⟨Fb, 5, none⟩ (.string X)).cell? ⟨Hb, 0, none⟩ = some (.bool false) ∧ ((((((W3.setCell ⟨Fb, 0, none⟩ (.int .i64 g)).setCell ⟨Fb, 1, none⟩ (.int .i64 r)).setCell ⟨Fb, 2, none⟩ (.string lb)).setCell ⟨Fb, 3, none⟩ (.int .i64 n)).setCell ⟨Fb, 4, none⟩ (.int .i64 ix)).setCell ⟨Fb, 5, none⟩ (.string X)).frozen? ⟨Hb, 0, none⟩ = false) ∧ Hid (Only (fun j => (j = Fb ∨ j = Hb) ∨ B ≤ j) W2 (((((((W3.setCell ⟨Fb, 0, none⟩ (.int .i64 g)).setCell ⟨Fb, 1, none⟩ (.int .i64 r)).setCell ⟨Fb, 2, none⟩ (.string lb)).setCell ⟨Fb, 3, none⟩ (.int .i64 n)).setCell ⟨Fb, 4, none⟩ (.int .i64 ix)).setCell ⟨Fb, 5, none⟩ (.string X)).setCell ⟨Hb, 0, none⟩ (.bool true)) ∧ Only (fun j => j = Fb ∨ j = Hb ∨ wA.heap.size ≤ j) wA (((((((W3.setCell ⟨Fb, 0, none⟩ (.int .i64 g)).setCell ⟨Fb, 1, none⟩ (.int .i64 r)).setCell ⟨Fb, 2, none⟩ (.string lb)).setCell ⟨Fb, 3, none⟩ (.int .i64 n)).setCell ⟨Fb, 4, none⟩ (.int .i64 ix)).setCell ⟨Fb, 5, none⟩ (.string X)).setCell ⟨Hb, 0, none⟩ (.bool true)) ∧ (((((((W3.setCell ⟨Fb, 0, none⟩ (.int .i64 g)).setCell ⟨Fb, 1, none⟩ (.int .i64 r)).setCell ⟨Fb, 2, none⟩ (.string lb)).setCell ⟨Fb, 3, none⟩ (.int .i64 n)).setCell ⟨Fb, 4, none⟩ (.int .i64 ix)).setCell ⟨Fb, 5, none⟩ (.string X)).setCell ⟨Hb, 0, none⟩ (.bool true)).heap[Fb]? = some (.cells (encE ((g, r, lb, n, ix), X)).toArray 53 (0, 0)) ∧ (((((((W3.setCell ⟨Fb, 0, none⟩ (.int .i64 g)).setCell ⟨Fb, 1, none⟩ (.int .i64 r)).setCell ⟨Fb, 2, none⟩ (.string lb)).setCell ⟨Fb, 3, none⟩ (.int .i64 n)).setCell ⟨Fb, 4, none⟩ (.int .i64 ix)).setCell ⟨Fb, 5, none⟩ (.string X)).setCell ⟨Hb, 0, none⟩ (.bool true)).heap[Hb]? = some (.cells #[.bool true] 4 (0, 0))) := fun W3 h3 => by
      obtain ⟨k1, k2, k3⟩ := HAF.out W3 h3
      have hz := HZ.out
      obtain ⟨u6, o6⟩ := set6 (.int .i64 g) (.int .i64 r) (.string lb) (.int .i64 n) (.int .i64 ix) (.string X) k1
      have k2' := (o6.block _ (Array.getElem?_eq_some_iff.1 k2).1 (fun e => by have e' : Hb = Fb := e; omega)).trans k2
      obtain ⟨u7, o7⟩ := set_one (i := 0) (.bool true) k2'
      refine ⟨trivial, ⟨(cell_of_row _ _ 0 _ 53 (0, 0) k1).trans rfl, (cell_of_row _ _ 1 _ 53 (0, 0) k1).trans rfl, (cell_of_row _ _ 2 _ 53 (0, 0) k1).trans rfl, (cell_of_row _ _ 3 _ 53 (0, 0) k1).trans rfl, (cell_of_row _ _ 4 _ 53 (0, 0) k1).trans rfl, (cell_of_row _ _ 5 _ 53 (0, 0) k1).trans rfl, fun k => frozen_of_row _ _ k _ 53 k1, (cell_of_row _ _ 0 _ 4 (0, 0) k2').trans rfl, frozen_of_row _ _ 0 _ 4 k2'⟩, hide ⟨((below_only h3).next (o6.mono (fun j _ e => .inl (.inl e)))).next (o7.mono (fun j _ e => .inl (.inr e))), (k3.next (o6.mono (fun j _ e => .inl e))).next (o7.mono (fun j _ e => .inr (.inl e))), (o7.block _ (Array.getElem?_eq_some_iff.1 u6).1 (fun e => by have e' : Fb = Hb := e; omega)).trans u6, by simpa using u7⟩⟩
    have HST := hide step
    clear step
    have hne3 : ¬ Hb = Fb := by have := HZ.out; omega
    have hne4 : ¬ Fb = Hb := by have := HZ.out; omega
    gi_wp2_with (refine ⟨trivial, CallsIn.inRound _ (callsIn_wide.2 (Calls.mono hT ?_))⟩; rintro e W3 ⟨rfl, b3⟩; obtain ⟨-, ⟨c0, c1, c2, c3, c4, c5, fz, -, -⟩, H9⟩ := HST.out W3 b3; have f0 := fz 0; have f1 := fz 1; have f2 := fz 2; have f3 := fz 3; have f4 := fz 4; have f5 := fz 5; have ch : W3.cell? ⟨Hb, 0, none⟩ = some (.bool false) := (cell_of_row _ _ 0 _ 4 (0, 0) (HAF.out W3 b3).2.1).trans rfl; have fh : W3.frozen? ⟨Hb, 0, none⟩ = false := frozen_of_row _ _ 0 _ 4 (HAF.out W3 b3).2.1; clear b3 fz; dsimp only)
    exact ⟨H9.out.1, rfl, ((g, r, lb, n, ix), X), HX.out.1, H9.out.2.1, H9.out.2.2.1, H9.out.2.2.2⟩
end Go.Proofs.YtkkpdgfllnbigaaGreat.Qu
