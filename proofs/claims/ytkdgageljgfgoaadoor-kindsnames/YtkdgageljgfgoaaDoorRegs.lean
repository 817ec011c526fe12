/-
  known: the regions that draw their order.
-/
import Derived.Test.YtkdgageljgfgoaaDoorApplyO
namespace Go.Proofs.YtkdgageljgfgoaaDoor
open Go.RowKit Go.Shelf
set_option linter.unusedSimpArgs false

section
variable {P : Program} {md : Region.Mode} {ops : Array Oper} {Q : Exit → Act → World → Prop} {S : World → Prop}
theorem AllReadyH.call {i : Nat} {oi : Oper} {d : Tmp} {OP : Op} {T : TypeId} {f : FuncId} {args : Array Value} {fuel : Nat} {listed : Array Bool} {a : Act} {w : World} {rs : List Nat} (hi : ops[i]? = some oi) (hd : oi.dst = some d) (ho : oi.op = OP) (ht : oi.type = T) (hw : Region.wanted oi (yielded ops a.tmps) = true)
    (hy : (execOp a.eval { dst := none, op := OP, type := T, pos := "", after := #[], guard := none }).run P w = .ok (.enter f args) w)
    (h : Calls P f args w fun e w' => ∃ v, e = .returned v ∧ S w' ∧ wpAnyH P md ops Q S fuel (listed.setIfInBounds i true) (a.put (some d) v) w')
    (hs : AllReadyH P md ops Q S fuel listed a w rs) : AllReadyH P md ops Q S fuel listed a w (i :: rs) := by
  refine AllReadyH.cons hi (fun K hK => ?_) hs
  rw [if_pos hw]
  unfold Oper.wp
  rw [exec_same a.eval oi ho ht, hy]
  refine Calls.mono h ?_
  rintro e w' ⟨v, rfl, hS, hx⟩
  show K (a.put oi.dst v) w'
  rw [hd]
  exact hK.out _ _ hS (fun _ => hx)
theorem AllReadyH.turn {i : Nat} {oi : Oper} {d : Tmp} {OP : Op} {T : TypeId} {v : Value} {fuel : Nat} {listed : Array Bool} {a : Act} {w w' : World} {rs : List Nat} (hi : ops[i]? = some oi) (hd : oi.dst = some d) (ho : oi.op = OP) (ht : oi.type = T) (hw : Region.wanted oi (yielded ops a.tmps) = true)
    (hy : (execOp a.eval { dst := none, op := OP, type := T, pos := "", after := #[], guard := none }).run P w = .ok (.value v) w') (hS : S w')
    (h : wpAnyH P md ops Q S fuel (listed.setIfInBounds i true) (a.put (some d) v) w')
    (hs : AllReadyH P md ops Q S fuel listed a w rs) : AllReadyH P md ops Q S fuel listed a w (i :: rs) := by
  refine AllReadyH.cons hi (fun K hK => ?_) hs
  rw [if_pos hw]
  unfold Oper.wp
  rw [exec_same a.eval oi ho ht, hy]
  show K (a.put oi.dst v) w'
  rw [hd]
  exact hK.out _ _ hS (fun _ => h)
end
theorem put_comm {a : Act} {i j : Nat} {v u : Value} (h : i ≠ j) : (a.put (some i) v).put (some j) u = (a.put (some j) u).put (some i) v := by
  simp only [Act.put]
  rw [Array.setIfInBounds_comm _ _ h]
theorem eval_put {a : Act} {i j : Nat} {v : Value} (h : i ≠ j) : (a.put (some i) v).eval (.tmp j) = a.eval (.tmp j) := by
  simp [Act.eval, Act.put, Array.getElem?_setIfInBounds, h]

theorem eval_put_eq {a : Act} {i : Nat} {v : Value} (h : i < a.tmps.size) : (a.put (some i) v).eval (.tmp i) = v := by
  simp [Act.eval, Act.put, Array.getElem?_setIfInBounds, h]
theorem size_put {a : Act} {i : Nat} {v : Value} : (a.put (some i) v).tmps.size = a.tmps.size := by simp [Act.put]
theorem exec_move9 {ev : Operand → Value} {x : Operand} {T : TypeId} {w : World} {v : Value} (hx : ev x = v) : (execOp ev { dst := none, op := .move x, type := T, pos := "", after := #[], guard := none }).run Tryd.prog w = .ok (.value v) w := by
  simp [execOp, hx, go_sem]
theorem exec_assign9 {ev : Operand → Value} {x : Operand} {T : TypeId} {w : World} {v : Value} (hx : ev x = v) : (execOp ev { dst := none, op := .assign x, type := T, pos := "", after := #[], guard := none }).run Tryd.prog w = .ok (.value v) w := by
  simp [execOp, hx, go_sem]
theorem exec_ext9 {ev : Operand → Value} {x : Operand} {T : TypeId} {w : World} {a b : Value} (hx : ev x = .tuple #[a, b]) : (execOp ev { dst := none, op := .extract x 0, type := T, pos := "", after := #[], guard := none }).run Tryd.prog w = .ok (.value a) w ∧ (execOp ev { dst := none, op := .extract x 1, type := T, pos := "", after := #[], guard := none }).run Tryd.prog w = .ok (.value b) w := by
  constructor <;> simp [execOp, hx, go_sem]
theorem exec_call3 {ev : Operand → Value} {x y z : Operand} {T : TypeId} {w : World} {a b c : Value} (hf : ev (.func 12) = .func (.func 12) #[] #[]) (hx : ev x = a) (hy : ev y = b) (hz : ev z = c) : (execOp ev { dst := none, op := .call { callee := .value (.func 12), args := #[x, y, z], argTypes := #[30, 46, 50] }, type := T, pos := "", after := #[], guard := none }).run Tryd.prog w = .ok (.enter 12 #[a, b, c]) w := by
  simp [execOp, resolve, invoke, go_sem, hf, hx, hy, hz]
theorem exec_loadV {ev : Operand → Value} {x : Operand} {T : TypeId} {w : World} {B : Nat} {a b c : Value} (hx : ev x = .pointer (some ⟨B, 0, none⟩)) (h : w.heap[B]? = some (.cells #[a, b, c] 30 (0, 0))) : (execOp ev { dst := none, op := .load 30 x, type := T, pos := "", after := #[], guard := none }).run Tryd.prog w = .ok (.value (.agg #[a, b, c])) w := by
  have h0 : w.cell? ⟨B, 0, none⟩ = some a := (cell_of_row _ _ 0 _ 30 (0, 0) h).trans rfl
  have h1 : w.cell? ⟨B, 1, none⟩ = some b := (cell_of_row _ _ 1 _ 30 (0, 0) h).trans rfl
  have h2 : w.cell? ⟨B, 2, none⟩ = some c := (cell_of_row _ _ 2 _ 30 (0, 0) h).trans rfl
  unfold execOp
  simp only [hx]
  go_simp
theorem exec_alloc9 {ev : Operand → Value} {T : TypeId} (w : World) : (execOp ev { dst := none, op := .alloc 30, type := T, pos := "", after := #[], guard := none }).run Tryd.prog w = .ok (.value (.pointer (some ⟨w.heap.size, 0, none⟩))) (w.alloc (.cells #[.int .i64 0, .int .i64 0, .slice none 0 0] 30)) := by
  unfold execOp
  go_simp <;> rfl
theorem Nv.only {w w' : World} {B B0 : Nat} {ao : Option Addr} {c : Nat} {l : List El} (h : Nv w B0 ao c l) (ho : Only (fun j => j = B) w w') (hB : l ≠ [] → ∀ a, ao = some a → a.block ≠ B) : Nv w' B0 ao c l := by
  refine ⟨⟨⟨h.rv.re.1, fun a ha j u hj => ?_⟩, h.rv.cap, h.rv.nil, h.rv.spot⟩, h.new⟩
  have hl : l ≠ [] := by rintro rfl; simp [flatE] at hj
  have hbl : (a.add j).block = a.block := by unfold Addr.add; split <;> rfl
  refine ho.cell (h.rv.re.2 a ha j u hj) ?_
  rw [hbl]; exact hB hl a ha
theorem Nv.belowN {w w' : World} {B0 : Nat} {ao : Option Addr} {c : Nat} {l : List El} (h : Nv w B0 ao c l) (hb : Below w.heap.size w w') : Nv w' B0 ao c l := ⟨h.rv.below hb, h.new⟩
theorem Nv.lt {w : World} {B0 : Nat} {ao : Option Addr} {c : Nat} {l : List El} (h : Nv w B0 ao c l) (hl : l ≠ []) : ∀ a, ao = some a → a.block < w.heap.size := by
  rintro a rfl
  obtain ⟨x, l', rfl⟩ := List.exists_cons_of_ne_nil hl
  obtain ⟨b, off, e, q, _⟩ := h.rv.re.cells (k := 0) (x := x) rfl
  cases e
  exact World.block_lt_of_cell? _ _ q
theorem Nv.weak {w : World} {B0 B1 : Nat} {ao : Option Addr} {c : Nat} {l : List El} (h : Nv w B1 ao c l) (hB : B0 ≤ B1) : Nv w B0 ao c l := ⟨h.rv, fun a ha => Nat.le_trans hB (h.new a ha)⟩

/-! Region 2. -/
def ops_r2 : Array Oper := #[{ dst := some 26, op := Go.Op.load 30 (Go.Operand.tmp 1), type := 30, pos := "law.go:21", after := #[], guard := none }, { dst := some 27, op := Go.Op.call { callee := Go.Callee.value (Go.Operand.func 13), args := #[Go.Operand.const (Go.Value.int Go.IntKind.i64 1)], argTypes := #[2] }, type := 46, pos := "law.go:21", after := #[], guard := none }, { dst := some 28, op := Go.Op.build 50 #[(1, Go.Operand.const (Go.Value.int Go.IntKind.i64 2)), (2, Go.Operand.const (Go.Value.string { data := #[107] })), (3, Go.Operand.const (Go.Value.int Go.IntKind.i64 2)), (5, Go.Operand.const (Go.Value.string { data := #[120] }))], type := 50, pos := "law.go:21", after := #[], guard := none }, { dst := some 29, op := Go.Op.call { callee := Go.Callee.value (Go.Operand.func 12), args := #[Go.Operand.tmp 26, Go.Operand.tmp 27, Go.Operand.tmp 28], argTypes := #[30, 46, 50] }, type := 32, pos := "law.go:21", after := #[{ on := 0, ground := Go.Ground.data }, { on := 1, ground := Go.Ground.data }, { on := 2, ground := Go.Ground.data }, { on := 1, ground := Go.Ground.chain }], guard := none }, { dst := some 25, op := Go.Op.move (Go.Operand.tmp 29), type := 32, pos := "law.go:21", after := #[{ on := 3, ground := Go.Ground.data }], guard := none }, { dst := some 30, op := Go.Op.extract (Go.Operand.tmp 25) 0, type := 30, pos := "law.go:21", after := #[{ on := 4, ground := Go.Ground.data }], guard := none }, { dst := some 31, op := Go.Op.extract (Go.Operand.tmp 25) 1, type := 31, pos := "law.go:21", after := #[{ on := 4, ground := Go.Ground.data }, { on := 7, ground := Go.Ground.gcOnly Go.Departure.lateStores }], guard := none }, { dst := none, op := Go.Op.store 30 (Go.Operand.tmp 1) (Go.Operand.tmp 30), type := 0, pos := "law.go:21", after := #[{ on := 5, ground := Go.Ground.data }, { on := 3, ground := Go.Ground.chain }, { on := 0, ground := Go.Ground.phase }, { on := 1, ground := Go.Ground.phase }, { on := 2, ground := Go.Ground.phase }, { on := 3, ground := Go.Ground.phase }, { on := 4, ground := Go.Ground.phase }, { on := 5, ground := Go.Ground.phase }, { on := 6, ground := Go.Ground.textOnly Go.Departure.lateStores }], guard := none }, { dst := some 3, op := Go.Op.assign (Go.Operand.tmp 31), type := 31, pos := "law.go:21", after := #[{ on := 6, ground := Go.Ground.data }, { on := 7, ground := Go.Ground.chain }, { on := 0, ground := Go.Ground.phase }, { on := 1, ground := Go.Ground.phase }, { on := 2, ground := Go.Ground.phase }, { on := 3, ground := Go.Ground.phase }, { on := 4, ground := Go.Ground.phase }, { on := 5, ground := Go.Ground.phase }, { on := 6, ground := Go.Ground.phase }, { on := 7, ground := Go.Ground.phase }], guard := none }]
set_option maxHeartbeats 1000000 in
theorem wp_r2 {Q : Exit → Act → World → Prop} {a : Act} {w : World} (hsz : a.tmps.size = 165) {Bv : Nat} {k n K N : Int} {ao : Option Addr} {m c : Nat} {L : List El} (hp : a.eval (.tmp 1) = .pointer (some ⟨Bv, 0, none⟩)) (hbox : w.heap[Bv]? = some (.cells #[.int .i64 k, .int .i64 n, .slice ao m c] 30 (0, 0)))
    (c2 : ∀ W, Below w.heap.size w W → Calls Tryd.prog 12 #[vv k n ao m c, svT (atS 1), opv none 0 0 2 ⟨#[107]⟩ 2 0 ⟨#[120]⟩] W (ValO W K N L))
    (hq : ∀ c a i v w, Q (.panic c) (a.put (some i) v) w → Q (.panic c) a w)
    (h : ∀ a' c' m' W0 W, Hid (Below w.heap.size w W0 ∧ Only (fun j => j = Bv) W0 W ∧ m' = L.length ∧ Oe W w.heap.size (.slice a' m' c') L ∧ W.heap[Bv]? = some (.cells #[.int .i64 K, .int .i64 N, .slice a' m' c'] 30 (0, 0))) → Q .normal ((((((((a.put (some 28) (opv none 0 0 2 ⟨#[107]⟩ 2 0 ⟨#[120]⟩)).put (some 26) (vv k n ao m c)).put (some 27) (svT (atS 1))).put (some 29) (.tuple #[vv K N a' m' c', .int .i64 0])).put (some 25) (.tuple #[vv K N a' m' c', .int .i64 0])).put (some 30) (vv K N a' m' c')).put (some 31) (.int .i64 0)).put (some 3) (.int .i64 0)) W) :
    (Code.region 2 ops_r2 true).wp Tryd.prog Q a w := by
  have hbv := (Array.getElem?_eq_some_iff.1 hbox).1
  have hSb : ∀ W, Below w.heap.size w W → W.heap[Bv]? = some (.cells #[.int .i64 k, .int .i64 n, .slice ao m c] 30 (0, 0)) := fun W hW => (hW.block _ hbv).trans hbox
  have hd : Below w.heap.size w w.drew := drew_below w
  have c1 := fun W => at_any 1 W
  refine wp_region_held_drew (S := (fun _ => True)) (by kernel_rfl) trivial (fun hHeld => ?_)
  refine take_op (i := 2) (d := 28) (OP := Op.build 50 #[(1, Operand.const (Value.int IntKind.i64 2)), (2, Operand.const (Value.string { data := #[107] })), (3, Operand.const (Value.int IntKind.i64 2)), (5, Operand.const (Value.string { data := #[120] }))]) (T := 50) (v := opv none 0 0 2 ⟨#[107]⟩ 2 0 ⟨#[120]⟩) rfl rfl rfl rfl (by kernel_rfl) (by kernel_rfl) (by kernel_rfl) (fun c a w h => hq c a _ _ w h) (by rfl) (fun w' hw' => by unfold execOp; go_simp <;> rfl) trivial ?_
  have ev1 : (((a.put (some 28) (opv none 0 0 2 ⟨#[107]⟩ 2 0 ⟨#[120]⟩)).put (some 26) (vv k n ao m c)).put (some 27) (svT (atS 1))).eval (.tmp 26) = vv k n ao m c := by rw [eval_put (by decide)]; exact eval_put_eq (by simp only [size_put]; omega)
  have ev2 : (((a.put (some 28) (opv none 0 0 2 ⟨#[107]⟩ 2 0 ⟨#[120]⟩)).put (some 26) (vv k n ao m c)).put (some 27) (svT (atS 1))).eval (.tmp 28) = opv none 0 0 2 ⟨#[107]⟩ 2 0 ⟨#[120]⟩ := by rw [eval_put (by decide), eval_put (by decide)]; exact eval_put_eq (by omega)
  have ev3 : (((a.put (some 28) (opv none 0 0 2 ⟨#[107]⟩ 2 0 ⟨#[120]⟩)).put (some 26) (vv k n ao m c)).put (some 27) (svT (atS 1))).eval (.tmp 27) = svT (atS 1) := eval_put_eq (by simp only [size_put]; omega)
  have h2 : ∀ W, Below w.heap.size w W → wpAnyH Tryd.prog .any ops_r2 Q (fun _ => True) 6 #[true, true, true, false, false, false, false, false, false] (((a.put (some 28) (opv none 0 0 2 ⟨#[107]⟩ 2 0 ⟨#[120]⟩)).put (some 26) (vv k n ao m c)).put (some 27) (svT (atS 1))) W := fun W hb => by
    refine wpAnyH_ready (rs := [3]) (by kernel_rfl) (by simp) ?_
    refine AllReadyH.call (d := 29) (f := 12) (args := #[vv k n ao m c, svT (atS 1), opv none 0 0 2 ⟨#[107]⟩ 2 0 ⟨#[120]⟩]) (OP := Op.call { callee := Callee.value (Operand.func 12), args := #[Operand.tmp 26, Operand.tmp 27, Operand.tmp 28], argTypes := #[30, 46, 50] }) (T := 32) rfl rfl rfl rfl (by rfl) (exec_call3 rfl ev1 ev3 ev2) ?_ AllReadyH.nil
    refine (c2 W hb).mono ?_
    rintro e w' ⟨a', c', m', rfl, hm, hO, b'⟩
    have hb' := hb.trans (b'.mono hb.size)
    refine ⟨_, rfl, trivial, ?_⟩
    refine take_op (i := 4) (d := 25) (OP := Op.move (Operand.tmp 29)) (T := 32) (v := (.tuple #[vv K N a' m' c', .int .i64 0])) rfl rfl rfl rfl (by kernel_rfl) (by kernel_rfl) (by kernel_rfl) (fun c a w h => hq c a _ _ w h) (by rfl) (fun w' hw' => exec_move9 (eval_put_eq (by simp only [size_put]; omega))) trivial ?_
    refine take_op (i := 5) (d := 30) (OP := Op.extract (Operand.tmp 25) 0) (T := 30) (v := vv K N a' m' c') rfl rfl rfl rfl (by kernel_rfl) (by kernel_rfl) (by kernel_rfl) (fun c a w h => hq c a _ _ w h) (by rfl) (fun w' hw' => (exec_ext9 (eval_put_eq (by simp only [size_put]; omega))).1) trivial ?_
    refine take_op (i := 6) (d := 31) (OP := Op.extract (Operand.tmp 25) 1) (T := 31) (v := .int .i64 0) rfl rfl rfl rfl (by kernel_rfl) (by kernel_rfl) (by kernel_rfl) (fun c a w h => hq c a _ _ w h) (by rfl) (fun w' hw' => (exec_ext9 (by rw [eval_put (by decide)]; exact eval_put_eq (by simp only [size_put]; omega))).2) trivial ?_
    have hz := hSb _ hb'
    obtain ⟨s1, s2, s3⟩ := rowV hz (.int .i64 K) (.int .i64 N) (.slice a' m' c')
    have hp1 : (((((((a.put (some 28) (opv none 0 0 2 ⟨#[107]⟩ 2 0 ⟨#[120]⟩)).put (some 26) (vv k n ao m c)).put (some 27) (svT (atS 1))).put (some 29) (.tuple #[vv K N a' m' c', .int .i64 0])).put (some 25) (.tuple #[vv K N a' m' c', .int .i64 0])).put (some 30) (vv K N a' m' c')).put (some 31) (.int .i64 0)).eval (.tmp 1) = .pointer (some ⟨Bv, 0, none⟩) := by rw [eval_put (by decide), eval_put (by decide), eval_put (by decide), eval_put (by decide), eval_put (by decide), eval_put (by decide), eval_put (by decide)]; exact hp
    have hp2 : (((((((a.put (some 28) (opv none 0 0 2 ⟨#[107]⟩ 2 0 ⟨#[120]⟩)).put (some 26) (vv k n ao m c)).put (some 27) (svT (atS 1))).put (some 29) (.tuple #[vv K N a' m' c', .int .i64 0])).put (some 25) (.tuple #[vv K N a' m' c', .int .i64 0])).put (some 30) (vv K N a' m' c')).put (some 31) (.int .i64 0)).eval (.tmp 30) = vv K N a' m' c' := by rw [eval_put (by decide)]; exact eval_put_eq (by simp only [size_put]; omega)
    have hp3 : (((((((a.put (some 28) (opv none 0 0 2 ⟨#[107]⟩ 2 0 ⟨#[120]⟩)).put (some 26) (vv k n ao m c)).put (some 27) (svT (atS 1))).put (some 29) (.tuple #[vv K N a' m' c', .int .i64 0])).put (some 25) (.tuple #[vv K N a' m' c', .int .i64 0])).put (some 30) (vv K N a' m' c')).put (some 31) (.int .i64 0)).eval (.tmp 31) = .int .i64 0 := eval_put_eq (by simp only [size_put]; omega)
    refine skip_op (i := 7) (OP := Op.store 30 (Operand.tmp 1) (Operand.tmp 30)) (T := 0) rfl rfl rfl rfl (by kernel_rfl) (by rfl) (exec_storeV hp1 hp2 hz) ⟨trivial, ?_⟩
    refine take_op (i := 8) (d := 3) (OP := Op.assign (Operand.tmp 31)) (T := 31) (v := .int .i64 0) rfl rfl rfl rfl (by kernel_rfl) (by kernel_rfl) (by kernel_rfl) (fun c a w h => hq c a _ _ w h) (by rfl) (fun w' _ => exec_assign9 hp3) trivial ?_
    refine wpAnyH_done (by kernel_rfl) ?_ _
    refine h a' c' m' w' _ (hide ⟨hb', s2, hm, (hO.only s2 (fun k hk e => ?_)).lift hb.size, s1⟩)
    have := (World.ownsRow.lt hO k hk).1
    have := hb.size
    omega
  refine wpAnyH_ready (rs := [0, 1]) (by kernel_rfl) (by simp) ?_
  refine AllReadyH.turn (d := 26) (OP := Op.load 30 (Operand.tmp 1)) (T := 30) (v := vv k n ao m c) (w' := w.drew) rfl rfl rfl rfl (by rfl) (exec_loadV (by rw [eval_put (by decide)]; exact hp) hbox) trivial ?_ ?_
  · refine wpAnyH_ready (rs := [1]) (by kernel_rfl) (by simp) ?_
    refine AllReadyH.call (d := 27) (f := 13) (args := #[.int .i64 1]) (OP := Op.call { callee := Callee.value (Operand.func 13), args := #[Operand.const (Value.int IntKind.i64 1)], argTypes := #[2] }) (T := 46) rfl rfl rfl rfl (by rfl) (by simp [execOp, resolve, invoke, go_sem, Act.eval]) ?_ AllReadyH.nil
    refine (c1 _).mono ?_
    rintro e w' ⟨rfl, b'⟩
    exact ⟨_, rfl, trivial, h2 w' (hd.trans (b'.mono hd.size))⟩
  · refine AllReadyH.call (d := 27) (f := 13) (args := #[.int .i64 1]) (OP := Op.call { callee := Callee.value (Operand.func 13), args := #[Operand.const (Value.int IntKind.i64 1)], argTypes := #[2] }) (T := 46) rfl rfl rfl rfl (by rfl) (by simp [execOp, resolve, invoke, go_sem, Act.eval]) ?_ AllReadyH.nil
    refine (c1 _).mono ?_
    rintro e w' ⟨rfl, b'⟩
    have hb' := hd.trans (b'.mono hd.size)
    refine ⟨_, rfl, trivial, ?_⟩
    refine wpAnyH_ready (rs := [0]) (by kernel_rfl) (by simp) ?_
    refine AllReadyH.turn (d := 26) (OP := Op.load 30 (Operand.tmp 1)) (T := 30) (v := vv k n ao m c) (w' := w') rfl rfl rfl rfl (by rfl) (exec_loadV (by rw [eval_put (by decide), eval_put (by decide)]; exact hp) (hSb w' hb')) trivial ?_ AllReadyH.nil
    rw [put_comm (show 27 ≠ 26 by decide)]
    exact h2 w' hb'

/-! Region 3. -/
def ops_r3 : Array Oper := #[{ dst := some 33, op := Go.Op.load 30 (Go.Operand.tmp 1), type := 30, pos := "law.go:22", after := #[], guard := none }, { dst := some 34, op := Go.Op.call { callee := Go.Callee.value (Go.Operand.func 13), args := #[Go.Operand.const (Go.Value.int Go.IntKind.i64 2)], argTypes := #[2] }, type := 46, pos := "law.go:22", after := #[], guard := none }, { dst := some 35, op := Go.Op.build 50 #[(1, Go.Operand.const (Go.Value.int Go.IntKind.i64 2)), (2, Go.Operand.const (Go.Value.string { data := #[107] })), (3, Go.Operand.const (Go.Value.int Go.IntKind.i64 2)), (5, Go.Operand.const (Go.Value.string { data := #[121] }))], type := 50, pos := "law.go:22", after := #[], guard := none }, { dst := some 36, op := Go.Op.call { callee := Go.Callee.value (Go.Operand.func 12), args := #[Go.Operand.tmp 33, Go.Operand.tmp 34, Go.Operand.tmp 35], argTypes := #[30, 46, 50] }, type := 32, pos := "law.go:22", after := #[{ on := 0, ground := Go.Ground.data }, { on := 1, ground := Go.Ground.data }, { on := 2, ground := Go.Ground.data }, { on := 1, ground := Go.Ground.chain }], guard := none }, { dst := some 32, op := Go.Op.move (Go.Operand.tmp 36), type := 32, pos := "law.go:22", after := #[{ on := 3, ground := Go.Ground.data }], guard := none }, { dst := some 37, op := Go.Op.extract (Go.Operand.tmp 32) 0, type := 30, pos := "law.go:22", after := #[{ on := 4, ground := Go.Ground.data }], guard := none }, { dst := some 38, op := Go.Op.extract (Go.Operand.tmp 32) 1, type := 31, pos := "law.go:22", after := #[{ on := 4, ground := Go.Ground.data }, { on := 8, ground := Go.Ground.gcOnly Go.Departure.lateStores }], guard := none }, { dst := some 4, op := Go.Op.alloc 30, type := 0, pos := "law.go:22", after := #[], guard := none }, { dst := none, op := Go.Op.store 30 (Go.Operand.tmp 4) (Go.Operand.tmp 37), type := 0, pos := "law.go:22", after := #[{ on := 7, ground := Go.Ground.data }, { on := 5, ground := Go.Ground.data }, { on := 3, ground := Go.Ground.chain }, { on := 0, ground := Go.Ground.phase }, { on := 1, ground := Go.Ground.phase }, { on := 2, ground := Go.Ground.phase }, { on := 3, ground := Go.Ground.phase }, { on := 4, ground := Go.Ground.phase }, { on := 5, ground := Go.Ground.phase }, { on := 6, ground := Go.Ground.textOnly Go.Departure.lateStores }, { on := 7, ground := Go.Ground.phase }], guard := none }, { dst := some 5, op := Go.Op.assign (Go.Operand.tmp 38), type := 31, pos := "law.go:22", after := #[{ on := 6, ground := Go.Ground.data }, { on := 8, ground := Go.Ground.chain }, { on := 0, ground := Go.Ground.phase }, { on := 1, ground := Go.Ground.phase }, { on := 2, ground := Go.Ground.phase }, { on := 3, ground := Go.Ground.phase }, { on := 4, ground := Go.Ground.phase }, { on := 5, ground := Go.Ground.phase }, { on := 6, ground := Go.Ground.phase }, { on := 7, ground := Go.Ground.phase }, { on := 8, ground := Go.Ground.phase }], guard := none }]
theorem fin_r3 {Q : Exit → Act → World → Prop} {a : Act} {w : World} (hsz : a.tmps.size = 165) {Bv : Nat} {k n : Int} {ao : Option Addr} {m c : Nat} {K N Y : Int} {L : List El} {M : Nat}
    (hbv : Bv < w.heap.size) (hq : ∀ c a i v w, Q (.panic c) (a.put (some i) v) w → Q (.panic c) a w)
    (h : ∀ a' c' B W, Hid (Below w.heap.size w W ∧ w.heap.size ≤ B ∧ Nv W w.heap.size a' c' L ∧ W.heap[B]? = some (.cells #[.int .i64 K, .int .i64 N, .slice a' M c'] 30 (0, 0))) → Q .normal ((((((((((a.put (some 33) (vv k n ao m c)).put (some 35) (opv none 0 0 2 ⟨#[107]⟩ 2 0 ⟨#[121]⟩)).put (some 34) (svT (atS 2))).put (some 36) (.tuple #[vv K N a' M c', .int .i64 Y])).put (some 32) (.tuple #[vv K N a' M c', .int .i64 Y]))).put (some 37) (vv K N a' M c')).put (some 38) (.int .i64 Y)).put (some 4) (.pointer (some ⟨B, 0, none⟩))).put (some 5) (.int .i64 Y)) W)
    (a' : Option Addr) (c' B : Nat) (W : World) (hb : Below w.heap.size w W) (hB : w.heap.size ≤ B) (hn : Nv W w.heap.size a' c' L) (hne : L ≠ [] → ∀ a, a' = some a → a.block ≠ B) (hz : W.heap[B]? = some (.cells #[.int .i64 0, .int .i64 0, .slice none 0 0] 30)) (hs : W.heap[Bv]? = some (.cells #[.int .i64 k, .int .i64 n, .slice ao m c] 30 (0, 0))) :
    wpAnyH Tryd.prog .any ops_r3 Q (fun W => W.heap[Bv]? = some (.cells #[.int .i64 k, .int .i64 n, .slice ao m c] 30 (0, 0))) 2 #[true, true, true, true, true, true, true, true, false, false] (((((((((a.put (some 33) (vv k n ao m c)).put (some 35) (opv none 0 0 2 ⟨#[107]⟩ 2 0 ⟨#[121]⟩)).put (some 34) (svT (atS 2))).put (some 36) (.tuple #[vv K N a' M c', .int .i64 Y])).put (some 32) (.tuple #[vv K N a' M c', .int .i64 Y]))).put (some 37) (vv K N a' M c')).put (some 38) (.int .i64 Y)).put (some 4) (.pointer (some ⟨B, 0, none⟩))) W := by
  obtain ⟨s1, s2, s3⟩ := rowV hz (.int .i64 K) (.int .i64 N) (.slice a' M c')
  have hp1 : (((((((((a.put (some 33) (vv k n ao m c)).put (some 35) (opv none 0 0 2 ⟨#[107]⟩ 2 0 ⟨#[121]⟩)).put (some 34) (svT (atS 2))).put (some 36) (.tuple #[vv K N a' M c', .int .i64 Y])).put (some 32) (.tuple #[vv K N a' M c', .int .i64 Y]))).put (some 37) (vv K N a' M c')).put (some 38) (.int .i64 Y)).put (some 4) (.pointer (some ⟨B, 0, none⟩))).eval (.tmp 4) = .pointer (some ⟨B, 0, none⟩) := eval_put_eq (by simp only [size_put]; omega)
  have hp2 : (((((((((a.put (some 33) (vv k n ao m c)).put (some 35) (opv none 0 0 2 ⟨#[107]⟩ 2 0 ⟨#[121]⟩)).put (some 34) (svT (atS 2))).put (some 36) (.tuple #[vv K N a' M c', .int .i64 Y])).put (some 32) (.tuple #[vv K N a' M c', .int .i64 Y]))).put (some 37) (vv K N a' M c')).put (some 38) (.int .i64 Y)).put (some 4) (.pointer (some ⟨B, 0, none⟩))).eval (.tmp 37) = vv K N a' M c' := by rw [eval_put (by decide), eval_put (by decide)]; exact eval_put_eq (by simp only [size_put]; omega)
  have hp3 : (((((((((a.put (some 33) (vv k n ao m c)).put (some 35) (opv none 0 0 2 ⟨#[107]⟩ 2 0 ⟨#[121]⟩)).put (some 34) (svT (atS 2))).put (some 36) (.tuple #[vv K N a' M c', .int .i64 Y])).put (some 32) (.tuple #[vv K N a' M c', .int .i64 Y]))).put (some 37) (vv K N a' M c')).put (some 38) (.int .i64 Y)).put (some 4) (.pointer (some ⟨B, 0, none⟩))).eval (.tmp 38) = .int .i64 Y := by rw [eval_put (by decide)]; exact eval_put_eq (by simp only [size_put]; omega)
  have hs' := (s2.block _ (Array.getElem?_eq_some_iff.1 hs).1 (by omega)).trans hs
  refine skip_op (i := 8) (OP := Op.store 30 (Operand.tmp 4) (Operand.tmp 37)) (T := 0) rfl rfl rfl rfl (by kernel_rfl) (by rfl) (exec_storeV hp1 hp2 hz) ⟨hs', ?_⟩
  refine take_op (i := 9) (d := 5) (OP := Op.assign (Operand.tmp 38)) (T := 31) (v := .int .i64 Y) rfl rfl rfl rfl (by kernel_rfl) (by kernel_rfl) (by kernel_rfl) (fun c a w h => hq c a _ _ w h) (by rfl) (fun w' _ => exec_assign9 hp3) hs' ?_
  refine wpAnyH_done (by kernel_rfl) ?_ _
  exact h a' c' B _ (hide ⟨Below.only hb s2 hb.size (fun j e => by omega), hB, hn.only s2 hne, s1⟩)
set_option maxHeartbeats 1000000 in
theorem wp_r3 {Q : Exit → Act → World → Prop} {a : Act} {w : World} (hsz : a.tmps.size = 165) (M : Nat) (K N Y : Int) (L : List El) (hM : M = L.length) {Bv : Nat} {k n : Int} {ao : Option Addr} {m c : Nat} (hp : a.eval (.tmp 1) = .pointer (some ⟨Bv, 0, none⟩)) (hbox : w.heap[Bv]? = some (.cells #[.int .i64 k, .int .i64 n, .slice ao m c] 30 (0, 0)))
    (c2 : ∀ W, Below w.heap.size w W → Calls Tryd.prog 12 #[vv k n ao m c, svT (atS 2), opv none 0 0 2 ⟨#[107]⟩ 2 0 ⟨#[121]⟩] W (ValE W (K, N, L, Y)))
    (hq : ∀ c a i v w, Q (.panic c) (a.put (some i) v) w → Q (.panic c) a w)
    (h : ∀ a' c' B W, Hid (Below w.heap.size w W ∧ w.heap.size ≤ B ∧ Nv W w.heap.size a' c' L ∧ W.heap[B]? = some (.cells #[.int .i64 K, .int .i64 N, .slice a' M c'] 30 (0, 0))) → Q .normal ((((((((((a.put (some 33) (vv k n ao m c)).put (some 35) (opv none 0 0 2 ⟨#[107]⟩ 2 0 ⟨#[121]⟩)).put (some 34) (svT (atS 2))).put (some 36) (.tuple #[vv K N a' M c', .int .i64 Y])).put (some 32) (.tuple #[vv K N a' M c', .int .i64 Y]))).put (some 37) (vv K N a' M c')).put (some 38) (.int .i64 Y)).put (some 4) (.pointer (some ⟨B, 0, none⟩))).put (some 5) (.int .i64 Y)) W) :
    (Code.region 3 ops_r3 true).wp Tryd.prog Q a w := by
  replace c2 : ∀ W, Below w.heap.size w W → Calls Tryd.prog 12 #[vv k n ao m c, svT (atS 2), opv none 0 0 2 ⟨#[107]⟩ 2 0 ⟨#[121]⟩] W (fun e w' => ∃ a' c', e = .returned (.tuple #[vv K N a' M c', .int .i64 Y]) ∧ Nv w' W.heap.size a' c' L ∧ Below W.heap.size W w') := by subst hM; exact c2
  have hbv := (Array.getElem?_eq_some_iff.1 hbox).1
  have hSb : ∀ W, Below w.heap.size w W → W.heap[Bv]? = some (.cells #[.int .i64 k, .int .i64 n, .slice ao m c] 30 (0, 0)) := fun W hW => (hW.block _ hbv).trans hbox
  have hd : Below w.heap.size w w.drew := drew_below w
  have za : ∀ W : World, Below W.heap.size W (W.alloc (.cells #[.int .i64 0, .int .i64 0, .slice none 0 0] 30)) := fun W => (Below.refl _ W).alloc (Nat.le_refl _) _
  have c1 := fun W => at_any 2 W
  refine wp_region_held_drew (S := (fun W => W.heap[Bv]? = some (.cells #[.int .i64 k, .int .i64 n, .slice ao m c] 30 (0, 0)))) (by kernel_rfl) (hSb _ hd) (fun hHeld => ?_)
  refine take_op (i := 0) (d := 33) (OP := Op.load 30 (Operand.tmp 1)) (T := 30) (v := vv k n ao m c) rfl rfl rfl rfl (by kernel_rfl) (by kernel_rfl) (by kernel_rfl) (fun c a w h => hq c a _ _ w h) (by rfl) (fun w' hw' => exec_loadV hp hw') hHeld ?_
  refine take_op (i := 2) (d := 35) (OP := Op.build 50 #[(1, Operand.const (Value.int IntKind.i64 2)), (2, Operand.const (Value.string { data := #[107] })), (3, Operand.const (Value.int IntKind.i64 2)), (5, Operand.const (Value.string { data := #[121] }))]) (T := 50) (v := opv none 0 0 2 ⟨#[107]⟩ 2 0 ⟨#[121]⟩) rfl rfl rfl rfl (by kernel_rfl) (by kernel_rfl) (by kernel_rfl) (fun c a w h => hq c a _ _ w h) (by rfl) (fun w' hw' => by unfold execOp; go_simp <;> rfl) hHeld ?_
  have ev1 : ∀ v, (((a.put (some 33) (vv k n ao m c)).put (some 35) (opv none 0 0 2 ⟨#[107]⟩ 2 0 ⟨#[121]⟩)).put (some 34) v).eval (.tmp 33) = vv k n ao m c := fun v => by rw [eval_put (by decide), eval_put (by decide)]; exact eval_put_eq (by omega)
  have ev2 : ∀ v, (((a.put (some 33) (vv k n ao m c)).put (some 35) (opv none 0 0 2 ⟨#[107]⟩ 2 0 ⟨#[121]⟩)).put (some 34) v).eval (.tmp 35) = opv none 0 0 2 ⟨#[107]⟩ 2 0 ⟨#[121]⟩ := fun v => by rw [eval_put (by decide)]; exact eval_put_eq (by simp only [size_put]; omega)
  have ev3 : ∀ v, (((a.put (some 33) (vv k n ao m c)).put (some 35) (opv none 0 0 2 ⟨#[107]⟩ 2 0 ⟨#[121]⟩)).put (some 34) v).eval (.tmp 34) = v := fun v => eval_put_eq (by simp only [size_put]; omega)
  have h2n : ∀ a' c' W, Below w.heap.size w W → Nv W w.heap.size a' c' L → wpAnyH Tryd.prog .any ops_r3 Q (fun W => W.heap[Bv]? = some (.cells #[.int .i64 k, .int .i64 n, .slice ao m c] 30 (0, 0))) 6 #[true, true, true, true, false, false, false, false, false, false] ((((a.put (some 33) (vv k n ao m c)).put (some 35) (opv none 0 0 2 ⟨#[107]⟩ 2 0 ⟨#[121]⟩)).put (some 34) (svT (atS 2))).put (some 36) (.tuple #[vv K N a' M c', .int .i64 Y])) W := fun a' c' W hb hn => by
    refine take_op (i := 4) (d := 32) (OP := Op.move (Operand.tmp 36)) (T := 32) (v := (.tuple #[vv K N a' M c', .int .i64 Y])) rfl rfl rfl rfl (by kernel_rfl) (by kernel_rfl) (by kernel_rfl) (fun c a w h => hq c a _ _ w h) (by rfl) (fun w' hw' => exec_move9 (eval_put_eq (by simp only [size_put]; omega))) (hSb W hb) ?_
    refine take_op (i := 5) (d := 37) (OP := Op.extract (Operand.tmp 32) 0) (T := 30) (v := vv K N a' M c') rfl rfl rfl rfl (by kernel_rfl) (by kernel_rfl) (by kernel_rfl) (fun c a w h => hq c a _ _ w h) (by rfl) (fun w' hw' => (exec_ext9 (eval_put_eq (by simp only [size_put]; omega))).1) (hSb W hb) ?_
    refine take_op (i := 6) (d := 38) (OP := Op.extract (Operand.tmp 32) 1) (T := 31) (v := .int .i64 Y) rfl rfl rfl rfl (by kernel_rfl) (by kernel_rfl) (by kernel_rfl) (fun c a w h => hq c a _ _ w h) (by rfl) (fun w' hw' => (exec_ext9 (by rw [eval_put (by decide)]; exact eval_put_eq (by simp only [size_put]; omega))).2) (hSb W hb) ?_
    refine wpAnyH_ready (rs := [7]) (by kernel_rfl) (by simp) ?_
    refine AllReadyH.turn (d := 4) (OP := Op.alloc 30) (T := 0) (v := .pointer (some ⟨W.heap.size, 0, none⟩)) (w' := W.alloc (.cells #[.int .i64 0, .int .i64 0, .slice none 0 0] 30)) rfl rfl rfl rfl (by rfl) (exec_alloc9 W) (hSb _ (hb.trans ((za W).mono hb.size))) ?_ AllReadyH.nil
    exact fin_r3 hsz hbv hq h a' c' W.heap.size _ (hb.trans ((za W).mono hb.size)) hb.size (hn.belowN (za W)) (fun hl a ha => by have := hn.lt hl a ha; omega) (heap_alloc_new W _) (hSb _ (hb.trans ((za W).mono hb.size)))
  have h2y : ∀ a' c' B W, Below w.heap.size w W → Nv W w.heap.size a' c' L → w.heap.size ≤ B → W.heap[B]? = some (.cells #[.int .i64 0, .int .i64 0, .slice none 0 0] 30) → (L ≠ [] → ∀ a, a' = some a → a.block ≠ B) → wpAnyH Tryd.prog .any ops_r3 Q (fun W => W.heap[Bv]? = some (.cells #[.int .i64 k, .int .i64 n, .slice ao m c] 30 (0, 0))) 5 #[true, true, true, true, false, false, false, true, false, false] (((((a.put (some 33) (vv k n ao m c)).put (some 35) (opv none 0 0 2 ⟨#[107]⟩ 2 0 ⟨#[121]⟩)).put (some 34) (svT (atS 2))).put (some 36) (.tuple #[vv K N a' M c', .int .i64 Y])).put (some 4) (.pointer (some ⟨B, 0, none⟩))) W := fun a' c' B W hb hn hB hz hne => by
    refine take_op (i := 4) (d := 32) (OP := Op.move (Operand.tmp 36)) (T := 32) (v := (.tuple #[vv K N a' M c', .int .i64 Y])) rfl rfl rfl rfl (by kernel_rfl) (by kernel_rfl) (by kernel_rfl) (fun c a w h => hq c a _ _ w h) (by rfl) (fun w' hw' => exec_move9 (by rw [eval_put (by decide)]; exact eval_put_eq (by simp only [size_put]; omega))) (hSb W hb) ?_
    rw [put_comm (show 4 ≠ 32 by decide)]
    refine take_op (i := 5) (d := 37) (OP := Op.extract (Operand.tmp 32) 0) (T := 30) (v := vv K N a' M c') rfl rfl rfl rfl (by kernel_rfl) (by kernel_rfl) (by kernel_rfl) (fun c a w h => hq c a _ _ w h) (by rfl) (fun w' hw' => (exec_ext9 (by rw [eval_put (by decide)]; exact eval_put_eq (by simp only [size_put]; omega))).1) (hSb W hb) ?_
    rw [put_comm (show 4 ≠ 37 by decide)]
    refine take_op (i := 6) (d := 38) (OP := Op.extract (Operand.tmp 32) 1) (T := 31) (v := .int .i64 Y) rfl rfl rfl rfl (by kernel_rfl) (by kernel_rfl) (by kernel_rfl) (fun c a w h => hq c a _ _ w h) (by rfl) (fun w' hw' => (exec_ext9 (by rw [eval_put (by decide), eval_put (by decide)]; exact eval_put_eq (by simp only [size_put]; omega))).2) (hSb W hb) ?_
    rw [put_comm (show 4 ≠ 38 by decide)]
    exact fin_r3 hsz hbv hq h a' c' B _ hb hB hn hne hz (hSb _ hb)
  have h1y : ∀ B W, Below w.heap.size w W → w.heap.size ≤ B → W.heap[B]? = some (.cells #[.int .i64 0, .int .i64 0, .slice none 0 0] 30) → wpAnyH Tryd.prog .any ops_r3 Q (fun W => W.heap[Bv]? = some (.cells #[.int .i64 k, .int .i64 n, .slice ao m c] 30 (0, 0))) 6 #[true, true, true, false, false, false, false, true, false, false] ((((a.put (some 33) (vv k n ao m c)).put (some 35) (opv none 0 0 2 ⟨#[107]⟩ 2 0 ⟨#[121]⟩)).put (some 34) (svT (atS 2))).put (some 4) (.pointer (some ⟨B, 0, none⟩))) W := fun B W hb hB hz => by
    refine wpAnyH_ready (rs := [3]) (by kernel_rfl) (by simp) ?_
    refine AllReadyH.call (d := 36) (f := 12) (args := #[vv k n ao m c, svT (atS 2), opv none 0 0 2 ⟨#[107]⟩ 2 0 ⟨#[121]⟩]) (OP := Op.call { callee := Callee.value (Operand.func 12), args := #[Operand.tmp 33, Operand.tmp 34, Operand.tmp 35], argTypes := #[30, 46, 50] }) (T := 32) rfl rfl rfl rfl (by rfl) (exec_call3 rfl (by rw [eval_put (by decide)]; exact ev1 _) (by rw [eval_put (by decide)]; exact ev3 _) (by rw [eval_put (by decide)]; exact ev2 _)) ?_ AllReadyH.nil
    refine (c2 W hb).mono ?_
    rintro e w' ⟨a', c', rfl, hn, b'⟩
    have hb' := hb.trans (b'.mono hb.size)
    have hBW := (Array.getElem?_eq_some_iff.1 hz).1
    refine ⟨_, rfl, hSb _ hb', ?_⟩
    rw [put_comm (show 4 ≠ 36 by decide)]
    exact h2y a' c' B w' hb' (hn.weak hb.size) hB ((b'.block _ hBW).trans hz) (fun _ a ha => by have := hn.new a ha; omega)
  have h1n : ∀ W, Below w.heap.size w W → wpAnyH Tryd.prog .any ops_r3 Q (fun W => W.heap[Bv]? = some (.cells #[.int .i64 k, .int .i64 n, .slice ao m c] 30 (0, 0))) 7 #[true, true, true, false, false, false, false, false, false, false] (((a.put (some 33) (vv k n ao m c)).put (some 35) (opv none 0 0 2 ⟨#[107]⟩ 2 0 ⟨#[121]⟩)).put (some 34) (svT (atS 2))) W := fun W hb => by
    refine wpAnyH_ready (rs := [3, 7]) (by kernel_rfl) (by simp) ?_
    refine AllReadyH.call (d := 36) (f := 12) (args := #[vv k n ao m c, svT (atS 2), opv none 0 0 2 ⟨#[107]⟩ 2 0 ⟨#[121]⟩]) (OP := Op.call { callee := Callee.value (Operand.func 12), args := #[Operand.tmp 33, Operand.tmp 34, Operand.tmp 35], argTypes := #[30, 46, 50] }) (T := 32) rfl rfl rfl rfl (by rfl) (exec_call3 rfl (ev1 _) (ev3 _) (ev2 _)) ?_ ?_
    · refine (c2 W hb).mono ?_
      rintro e w' ⟨a', c', rfl, hn, b'⟩
      have hb' := hb.trans (b'.mono hb.size)
      exact ⟨_, rfl, hSb _ hb', h2n a' c' w' hb' (hn.weak hb.size)⟩
    · refine AllReadyH.turn (d := 4) (OP := Op.alloc 30) (T := 0) (v := .pointer (some ⟨W.heap.size, 0, none⟩)) (w' := W.alloc (.cells #[.int .i64 0, .int .i64 0, .slice none 0 0] 30)) rfl rfl rfl rfl (by rfl) (exec_alloc9 W) (hSb _ (hb.trans ((za W).mono hb.size))) ?_ AllReadyH.nil
      exact h1y W.heap.size _ (hb.trans ((za W).mono hb.size)) hb.size (heap_alloc_new W _)
  have h0y : ∀ B W, Below w.heap.size w W → w.heap.size ≤ B → W.heap[B]? = some (.cells #[.int .i64 0, .int .i64 0, .slice none 0 0] 30) → wpAnyH Tryd.prog .any ops_r3 Q (fun W => W.heap[Bv]? = some (.cells #[.int .i64 k, .int .i64 n, .slice ao m c] 30 (0, 0))) 7 #[true, false, true, false, false, false, false, true, false, false] (((a.put (some 33) (vv k n ao m c)).put (some 35) (opv none 0 0 2 ⟨#[107]⟩ 2 0 ⟨#[121]⟩)).put (some 4) (.pointer (some ⟨B, 0, none⟩))) W := fun B W hb hB hz => by
    refine wpAnyH_ready (rs := [1]) (by kernel_rfl) (by simp) ?_
    refine AllReadyH.call (d := 34) (f := 13) (args := #[.int .i64 2]) (OP := Op.call { callee := Callee.value (Operand.func 13), args := #[Operand.const (Value.int IntKind.i64 2)], argTypes := #[2] }) (T := 46) rfl rfl rfl rfl (by rfl) (by simp [execOp, resolve, invoke, go_sem, Act.eval]) ?_ AllReadyH.nil
    refine (c1 W).mono ?_
    rintro e w' ⟨rfl, b'⟩
    have hb' := hb.trans (b'.mono hb.size)
    have hBW := (Array.getElem?_eq_some_iff.1 hz).1
    refine ⟨_, rfl, hSb _ hb', ?_⟩
    rw [put_comm (show 4 ≠ 34 by decide)]
    exact h1y B w' hb' hB ((b'.block _ hBW).trans hz)
  refine wpAnyH_ready (rs := [1, 7]) (by kernel_rfl) (by simp) ?_
  refine AllReadyH.call (d := 34) (f := 13) (args := #[.int .i64 2]) (OP := Op.call { callee := Callee.value (Operand.func 13), args := #[Operand.const (Value.int IntKind.i64 2)], argTypes := #[2] }) (T := 46) rfl rfl rfl rfl (by rfl) (by simp [execOp, resolve, invoke, go_sem, Act.eval]) ?_ ?_
  · refine (c1 _).mono ?_
    rintro e w' ⟨rfl, b'⟩
    have hb' := hd.trans (b'.mono hd.size)
    exact ⟨_, rfl, hSb _ hb', h1n w' hb'⟩
  · refine AllReadyH.turn (d := 4) (OP := Op.alloc 30) (T := 0) (v := .pointer (some ⟨w.drew.heap.size, 0, none⟩)) (w' := w.drew.alloc (.cells #[.int .i64 0, .int .i64 0, .slice none 0 0] 30)) rfl rfl rfl rfl (by rfl) (exec_alloc9 _) (hSb _ (hd.trans ((za _).mono hd.size))) ?_ AllReadyH.nil
    exact h0y w.drew.heap.size _ (hd.trans ((za _).mono hd.size)) hd.size (heap_alloc_new _ _)

/-! Region 4. -/
def ops_r4 : Array Oper := #[{ dst := some 40, op := Go.Op.load 30 (Go.Operand.tmp 4), type := 30, pos := "law.go:23", after := #[], guard := none }, { dst := some 41, op := Go.Op.call { callee := Go.Callee.value (Go.Operand.func 13), args := #[Go.Operand.const (Go.Value.int Go.IntKind.i64 3)], argTypes := #[2] }, type := 46, pos := "law.go:23", after := #[], guard := none }, { dst := some 42, op := Go.Op.build 50 #[(1, Go.Operand.const (Go.Value.int Go.IntKind.i64 2)), (2, Go.Operand.const (Go.Value.string { data := #[107] })), (3, Go.Operand.const (Go.Value.int Go.IntKind.i64 3)), (5, Go.Operand.const (Go.Value.string { data := #[120] }))], type := 50, pos := "law.go:23", after := #[], guard := none }, { dst := some 43, op := Go.Op.call { callee := Go.Callee.value (Go.Operand.func 12), args := #[Go.Operand.tmp 40, Go.Operand.tmp 41, Go.Operand.tmp 42], argTypes := #[30, 46, 50] }, type := 32, pos := "law.go:23", after := #[{ on := 0, ground := Go.Ground.data }, { on := 1, ground := Go.Ground.data }, { on := 2, ground := Go.Ground.data }, { on := 1, ground := Go.Ground.chain }], guard := none }, { dst := some 39, op := Go.Op.move (Go.Operand.tmp 43), type := 32, pos := "law.go:23", after := #[{ on := 3, ground := Go.Ground.data }], guard := none }, { dst := some 44, op := Go.Op.extract (Go.Operand.tmp 39) 0, type := 30, pos := "law.go:23", after := #[{ on := 4, ground := Go.Ground.data }], guard := none }, { dst := some 45, op := Go.Op.extract (Go.Operand.tmp 39) 1, type := 31, pos := "law.go:23", after := #[{ on := 4, ground := Go.Ground.data }, { on := 8, ground := Go.Ground.gcOnly Go.Departure.lateStores }], guard := none }, { dst := some 6, op := Go.Op.alloc 30, type := 0, pos := "law.go:23", after := #[], guard := none }, { dst := none, op := Go.Op.store 30 (Go.Operand.tmp 6) (Go.Operand.tmp 44), type := 0, pos := "law.go:23", after := #[{ on := 7, ground := Go.Ground.data }, { on := 5, ground := Go.Ground.data }, { on := 3, ground := Go.Ground.chain }, { on := 0, ground := Go.Ground.phase }, { on := 1, ground := Go.Ground.phase }, { on := 2, ground := Go.Ground.phase }, { on := 3, ground := Go.Ground.phase }, { on := 4, ground := Go.Ground.phase }, { on := 5, ground := Go.Ground.phase }, { on := 6, ground := Go.Ground.textOnly Go.Departure.lateStores }, { on := 7, ground := Go.Ground.phase }], guard := none }, { dst := some 7, op := Go.Op.assign (Go.Operand.tmp 45), type := 31, pos := "law.go:23", after := #[{ on := 6, ground := Go.Ground.data }, { on := 8, ground := Go.Ground.chain }, { on := 0, ground := Go.Ground.phase }, { on := 1, ground := Go.Ground.phase }, { on := 2, ground := Go.Ground.phase }, { on := 3, ground := Go.Ground.phase }, { on := 4, ground := Go.Ground.phase }, { on := 5, ground := Go.Ground.phase }, { on := 6, ground := Go.Ground.phase }, { on := 7, ground := Go.Ground.phase }, { on := 8, ground := Go.Ground.phase }], guard := none }]
theorem fin_r4 {Q : Exit → Act → World → Prop} {a : Act} {w : World} (hsz : a.tmps.size = 165) {Bv : Nat} {k n : Int} {ao : Option Addr} {m c : Nat} {K N Y : Int} {L : List El} {M : Nat}
    (hbv : Bv < w.heap.size) (hq : ∀ c a i v w, Q (.panic c) (a.put (some i) v) w → Q (.panic c) a w)
    (h : ∀ a' c' B W, Hid (Below w.heap.size w W ∧ w.heap.size ≤ B ∧ Nv W w.heap.size a' c' L ∧ W.heap[B]? = some (.cells #[.int .i64 K, .int .i64 N, .slice a' M c'] 30 (0, 0))) → Q .normal ((((((((((a.put (some 40) (vv k n ao m c)).put (some 42) (opv none 0 0 2 ⟨#[107]⟩ 3 0 ⟨#[120]⟩)).put (some 41) (svT (atS 3))).put (some 43) (.tuple #[vv K N a' M c', .int .i64 Y])).put (some 39) (.tuple #[vv K N a' M c', .int .i64 Y]))).put (some 44) (vv K N a' M c')).put (some 45) (.int .i64 Y)).put (some 6) (.pointer (some ⟨B, 0, none⟩))).put (some 7) (.int .i64 Y)) W)
    (a' : Option Addr) (c' B : Nat) (W : World) (hb : Below w.heap.size w W) (hB : w.heap.size ≤ B) (hn : Nv W w.heap.size a' c' L) (hne : L ≠ [] → ∀ a, a' = some a → a.block ≠ B) (hz : W.heap[B]? = some (.cells #[.int .i64 0, .int .i64 0, .slice none 0 0] 30)) (hs : W.heap[Bv]? = some (.cells #[.int .i64 k, .int .i64 n, .slice ao m c] 30 (0, 0))) :
    wpAnyH Tryd.prog .any ops_r4 Q (fun W => W.heap[Bv]? = some (.cells #[.int .i64 k, .int .i64 n, .slice ao m c] 30 (0, 0))) 2 #[true, true, true, true, true, true, true, true, false, false] (((((((((a.put (some 40) (vv k n ao m c)).put (some 42) (opv none 0 0 2 ⟨#[107]⟩ 3 0 ⟨#[120]⟩)).put (some 41) (svT (atS 3))).put (some 43) (.tuple #[vv K N a' M c', .int .i64 Y])).put (some 39) (.tuple #[vv K N a' M c', .int .i64 Y]))).put (some 44) (vv K N a' M c')).put (some 45) (.int .i64 Y)).put (some 6) (.pointer (some ⟨B, 0, none⟩))) W := by
  obtain ⟨s1, s2, s3⟩ := rowV hz (.int .i64 K) (.int .i64 N) (.slice a' M c')
  have hp1 : (((((((((a.put (some 40) (vv k n ao m c)).put (some 42) (opv none 0 0 2 ⟨#[107]⟩ 3 0 ⟨#[120]⟩)).put (some 41) (svT (atS 3))).put (some 43) (.tuple #[vv K N a' M c', .int .i64 Y])).put (some 39) (.tuple #[vv K N a' M c', .int .i64 Y]))).put (some 44) (vv K N a' M c')).put (some 45) (.int .i64 Y)).put (some 6) (.pointer (some ⟨B, 0, none⟩))).eval (.tmp 6) = .pointer (some ⟨B, 0, none⟩) := eval_put_eq (by simp only [size_put]; omega)
  have hp2 : (((((((((a.put (some 40) (vv k n ao m c)).put (some 42) (opv none 0 0 2 ⟨#[107]⟩ 3 0 ⟨#[120]⟩)).put (some 41) (svT (atS 3))).put (some 43) (.tuple #[vv K N a' M c', .int .i64 Y])).put (some 39) (.tuple #[vv K N a' M c', .int .i64 Y]))).put (some 44) (vv K N a' M c')).put (some 45) (.int .i64 Y)).put (some 6) (.pointer (some ⟨B, 0, none⟩))).eval (.tmp 44) = vv K N a' M c' := by rw [eval_put (by decide), eval_put (by decide)]; exact eval_put_eq (by simp only [size_put]; omega)
  have hp3 : (((((((((a.put (some 40) (vv k n ao m c)).put (some 42) (opv none 0 0 2 ⟨#[107]⟩ 3 0 ⟨#[120]⟩)).put (some 41) (svT (atS 3))).put (some 43) (.tuple #[vv K N a' M c', .int .i64 Y])).put (some 39) (.tuple #[vv K N a' M c', .int .i64 Y]))).put (some 44) (vv K N a' M c')).put (some 45) (.int .i64 Y)).put (some 6) (.pointer (some ⟨B, 0, none⟩))).eval (.tmp 45) = .int .i64 Y := by rw [eval_put (by decide)]; exact eval_put_eq (by simp only [size_put]; omega)
  have hs' := (s2.block _ (Array.getElem?_eq_some_iff.1 hs).1 (by omega)).trans hs
  refine skip_op (i := 8) (OP := Op.store 30 (Operand.tmp 6) (Operand.tmp 44)) (T := 0) rfl rfl rfl rfl (by kernel_rfl) (by rfl) (exec_storeV hp1 hp2 hz) ⟨hs', ?_⟩
  refine take_op (i := 9) (d := 7) (OP := Op.assign (Operand.tmp 45)) (T := 31) (v := .int .i64 Y) rfl rfl rfl rfl (by kernel_rfl) (by kernel_rfl) (by kernel_rfl) (fun c a w h => hq c a _ _ w h) (by rfl) (fun w' _ => exec_assign9 hp3) hs' ?_
  refine wpAnyH_done (by kernel_rfl) ?_ _
  exact h a' c' B _ (hide ⟨Below.only hb s2 hb.size (fun j e => by omega), hB, hn.only s2 hne, s1⟩)
set_option maxHeartbeats 1000000 in
theorem wp_r4 {Q : Exit → Act → World → Prop} {a : Act} {w : World} (hsz : a.tmps.size = 165) (M : Nat) (K N Y : Int) (L : List El) (hM : M = L.length) {Bv : Nat} {k n : Int} {ao : Option Addr} {m c : Nat} (hp : a.eval (.tmp 4) = .pointer (some ⟨Bv, 0, none⟩)) (hbox : w.heap[Bv]? = some (.cells #[.int .i64 k, .int .i64 n, .slice ao m c] 30 (0, 0)))
    (c2 : ∀ W, Below w.heap.size w W → Calls Tryd.prog 12 #[vv k n ao m c, svT (atS 3), opv none 0 0 2 ⟨#[107]⟩ 3 0 ⟨#[120]⟩] W (ValE W (K, N, L, Y)))
    (hq : ∀ c a i v w, Q (.panic c) (a.put (some i) v) w → Q (.panic c) a w)
    (h : ∀ a' c' B W, Hid (Below w.heap.size w W ∧ w.heap.size ≤ B ∧ Nv W w.heap.size a' c' L ∧ W.heap[B]? = some (.cells #[.int .i64 K, .int .i64 N, .slice a' M c'] 30 (0, 0))) → Q .normal ((((((((((a.put (some 40) (vv k n ao m c)).put (some 42) (opv none 0 0 2 ⟨#[107]⟩ 3 0 ⟨#[120]⟩)).put (some 41) (svT (atS 3))).put (some 43) (.tuple #[vv K N a' M c', .int .i64 Y])).put (some 39) (.tuple #[vv K N a' M c', .int .i64 Y]))).put (some 44) (vv K N a' M c')).put (some 45) (.int .i64 Y)).put (some 6) (.pointer (some ⟨B, 0, none⟩))).put (some 7) (.int .i64 Y)) W) :
    (Code.region 4 ops_r4 true).wp Tryd.prog Q a w := by
  replace c2 : ∀ W, Below w.heap.size w W → Calls Tryd.prog 12 #[vv k n ao m c, svT (atS 3), opv none 0 0 2 ⟨#[107]⟩ 3 0 ⟨#[120]⟩] W (fun e w' => ∃ a' c', e = .returned (.tuple #[vv K N a' M c', .int .i64 Y]) ∧ Nv w' W.heap.size a' c' L ∧ Below W.heap.size W w') := by subst hM; exact c2
  have hbv := (Array.getElem?_eq_some_iff.1 hbox).1
  have hSb : ∀ W, Below w.heap.size w W → W.heap[Bv]? = some (.cells #[.int .i64 k, .int .i64 n, .slice ao m c] 30 (0, 0)) := fun W hW => (hW.block _ hbv).trans hbox
  have hd : Below w.heap.size w w.drew := drew_below w
  have za : ∀ W : World, Below W.heap.size W (W.alloc (.cells #[.int .i64 0, .int .i64 0, .slice none 0 0] 30)) := fun W => (Below.refl _ W).alloc (Nat.le_refl _) _
  have c1 := fun W => at_any 3 W
  refine wp_region_held_drew (S := (fun W => W.heap[Bv]? = some (.cells #[.int .i64 k, .int .i64 n, .slice ao m c] 30 (0, 0)))) (by kernel_rfl) (hSb _ hd) (fun hHeld => ?_)
  refine take_op (i := 0) (d := 40) (OP := Op.load 30 (Operand.tmp 4)) (T := 30) (v := vv k n ao m c) rfl rfl rfl rfl (by kernel_rfl) (by kernel_rfl) (by kernel_rfl) (fun c a w h => hq c a _ _ w h) (by rfl) (fun w' hw' => exec_loadV hp hw') hHeld ?_
  refine take_op (i := 2) (d := 42) (OP := Op.build 50 #[(1, Operand.const (Value.int IntKind.i64 2)), (2, Operand.const (Value.string { data := #[107] })), (3, Operand.const (Value.int IntKind.i64 3)), (5, Operand.const (Value.string { data := #[120] }))]) (T := 50) (v := opv none 0 0 2 ⟨#[107]⟩ 3 0 ⟨#[120]⟩) rfl rfl rfl rfl (by kernel_rfl) (by kernel_rfl) (by kernel_rfl) (fun c a w h => hq c a _ _ w h) (by rfl) (fun w' hw' => by unfold execOp; go_simp <;> rfl) hHeld ?_
  have ev1 : ∀ v, (((a.put (some 40) (vv k n ao m c)).put (some 42) (opv none 0 0 2 ⟨#[107]⟩ 3 0 ⟨#[120]⟩)).put (some 41) v).eval (.tmp 40) = vv k n ao m c := fun v => by rw [eval_put (by decide), eval_put (by decide)]; exact eval_put_eq (by omega)
  have ev2 : ∀ v, (((a.put (some 40) (vv k n ao m c)).put (some 42) (opv none 0 0 2 ⟨#[107]⟩ 3 0 ⟨#[120]⟩)).put (some 41) v).eval (.tmp 42) = opv none 0 0 2 ⟨#[107]⟩ 3 0 ⟨#[120]⟩ := fun v => by rw [eval_put (by decide)]; exact eval_put_eq (by simp only [size_put]; omega)
  have ev3 : ∀ v, (((a.put (some 40) (vv k n ao m c)).put (some 42) (opv none 0 0 2 ⟨#[107]⟩ 3 0 ⟨#[120]⟩)).put (some 41) v).eval (.tmp 41) = v := fun v => eval_put_eq (by simp only [size_put]; omega)
  have h2n : ∀ a' c' W, Below w.heap.size w W → Nv W w.heap.size a' c' L → wpAnyH Tryd.prog .any ops_r4 Q (fun W => W.heap[Bv]? = some (.cells #[.int .i64 k, .int .i64 n, .slice ao m c] 30 (0, 0))) 6 #[true, true, true, true, false, false, false, false, false, false] ((((a.put (some 40) (vv k n ao m c)).put (some 42) (opv none 0 0 2 ⟨#[107]⟩ 3 0 ⟨#[120]⟩)).put (some 41) (svT (atS 3))).put (some 43) (.tuple #[vv K N a' M c', .int .i64 Y])) W := fun a' c' W hb hn => by
    refine take_op (i := 4) (d := 39) (OP := Op.move (Operand.tmp 43)) (T := 32) (v := (.tuple #[vv K N a' M c', .int .i64 Y])) rfl rfl rfl rfl (by kernel_rfl) (by kernel_rfl) (by kernel_rfl) (fun c a w h => hq c a _ _ w h) (by rfl) (fun w' hw' => exec_move9 (eval_put_eq (by simp only [size_put]; omega))) (hSb W hb) ?_
    refine take_op (i := 5) (d := 44) (OP := Op.extract (Operand.tmp 39) 0) (T := 30) (v := vv K N a' M c') rfl rfl rfl rfl (by kernel_rfl) (by kernel_rfl) (by kernel_rfl) (fun c a w h => hq c a _ _ w h) (by rfl) (fun w' hw' => (exec_ext9 (eval_put_eq (by simp only [size_put]; omega))).1) (hSb W hb) ?_
    refine take_op (i := 6) (d := 45) (OP := Op.extract (Operand.tmp 39) 1) (T := 31) (v := .int .i64 Y) rfl rfl rfl rfl (by kernel_rfl) (by kernel_rfl) (by kernel_rfl) (fun c a w h => hq c a _ _ w h) (by rfl) (fun w' hw' => (exec_ext9 (by rw [eval_put (by decide)]; exact eval_put_eq (by simp only [size_put]; omega))).2) (hSb W hb) ?_
    refine wpAnyH_ready (rs := [7]) (by kernel_rfl) (by simp) ?_
    refine AllReadyH.turn (d := 6) (OP := Op.alloc 30) (T := 0) (v := .pointer (some ⟨W.heap.size, 0, none⟩)) (w' := W.alloc (.cells #[.int .i64 0, .int .i64 0, .slice none 0 0] 30)) rfl rfl rfl rfl (by rfl) (exec_alloc9 W) (hSb _ (hb.trans ((za W).mono hb.size))) ?_ AllReadyH.nil
    exact fin_r4 hsz hbv hq h a' c' W.heap.size _ (hb.trans ((za W).mono hb.size)) hb.size (hn.belowN (za W)) (fun hl a ha => by have := hn.lt hl a ha; omega) (heap_alloc_new W _) (hSb _ (hb.trans ((za W).mono hb.size)))
  have h2y : ∀ a' c' B W, Below w.heap.size w W → Nv W w.heap.size a' c' L → w.heap.size ≤ B → W.heap[B]? = some (.cells #[.int .i64 0, .int .i64 0, .slice none 0 0] 30) → (L ≠ [] → ∀ a, a' = some a → a.block ≠ B) → wpAnyH Tryd.prog .any ops_r4 Q (fun W => W.heap[Bv]? = some (.cells #[.int .i64 k, .int .i64 n, .slice ao m c] 30 (0, 0))) 5 #[true, true, true, true, false, false, false, true, false, false] (((((a.put (some 40) (vv k n ao m c)).put (some 42) (opv none 0 0 2 ⟨#[107]⟩ 3 0 ⟨#[120]⟩)).put (some 41) (svT (atS 3))).put (some 43) (.tuple #[vv K N a' M c', .int .i64 Y])).put (some 6) (.pointer (some ⟨B, 0, none⟩))) W := fun a' c' B W hb hn hB hz hne => by
    refine take_op (i := 4) (d := 39) (OP := Op.move (Operand.tmp 43)) (T := 32) (v := (.tuple #[vv K N a' M c', .int .i64 Y])) rfl rfl rfl rfl (by kernel_rfl) (by kernel_rfl) (by kernel_rfl) (fun c a w h => hq c a _ _ w h) (by rfl) (fun w' hw' => exec_move9 (by rw [eval_put (by decide)]; exact eval_put_eq (by simp only [size_put]; omega))) (hSb W hb) ?_
    rw [put_comm (show 6 ≠ 39 by decide)]
    refine take_op (i := 5) (d := 44) (OP := Op.extract (Operand.tmp 39) 0) (T := 30) (v := vv K N a' M c') rfl rfl rfl rfl (by kernel_rfl) (by kernel_rfl) (by kernel_rfl) (fun c a w h => hq c a _ _ w h) (by rfl) (fun w' hw' => (exec_ext9 (by rw [eval_put (by decide)]; exact eval_put_eq (by simp only [size_put]; omega))).1) (hSb W hb) ?_
    rw [put_comm (show 6 ≠ 44 by decide)]
    refine take_op (i := 6) (d := 45) (OP := Op.extract (Operand.tmp 39) 1) (T := 31) (v := .int .i64 Y) rfl rfl rfl rfl (by kernel_rfl) (by kernel_rfl) (by kernel_rfl) (fun c a w h => hq c a _ _ w h) (by rfl) (fun w' hw' => (exec_ext9 (by rw [eval_put (by decide), eval_put (by decide)]; exact eval_put_eq (by simp only [size_put]; omega))).2) (hSb W hb) ?_
    rw [put_comm (show 6 ≠ 45 by decide)]
    exact fin_r4 hsz hbv hq h a' c' B _ hb hB hn hne hz (hSb _ hb)
  have h1y : ∀ B W, Below w.heap.size w W → w.heap.size ≤ B → W.heap[B]? = some (.cells #[.int .i64 0, .int .i64 0, .slice none 0 0] 30) → wpAnyH Tryd.prog .any ops_r4 Q (fun W => W.heap[Bv]? = some (.cells #[.int .i64 k, .int .i64 n, .slice ao m c] 30 (0, 0))) 6 #[true, true, true, false, false, false, false, true, false, false] ((((a.put (some 40) (vv k n ao m c)).put (some 42) (opv none 0 0 2 ⟨#[107]⟩ 3 0 ⟨#[120]⟩)).put (some 41) (svT (atS 3))).put (some 6) (.pointer (some ⟨B, 0, none⟩))) W := fun B W hb hB hz => by
    refine wpAnyH_ready (rs := [3]) (by kernel_rfl) (by simp) ?_
    refine AllReadyH.call (d := 43) (f := 12) (args := #[vv k n ao m c, svT (atS 3), opv none 0 0 2 ⟨#[107]⟩ 3 0 ⟨#[120]⟩]) (OP := Op.call { callee := Callee.value (Operand.func 12), args := #[Operand.tmp 40, Operand.tmp 41, Operand.tmp 42], argTypes := #[30, 46, 50] }) (T := 32) rfl rfl rfl rfl (by rfl) (exec_call3 rfl (by rw [eval_put (by decide)]; exact ev1 _) (by rw [eval_put (by decide)]; exact ev3 _) (by rw [eval_put (by decide)]; exact ev2 _)) ?_ AllReadyH.nil
    refine (c2 W hb).mono ?_
    rintro e w' ⟨a', c', rfl, hn, b'⟩
    have hb' := hb.trans (b'.mono hb.size)
    have hBW := (Array.getElem?_eq_some_iff.1 hz).1
    refine ⟨_, rfl, hSb _ hb', ?_⟩
    rw [put_comm (show 6 ≠ 43 by decide)]
    exact h2y a' c' B w' hb' (hn.weak hb.size) hB ((b'.block _ hBW).trans hz) (fun _ a ha => by have := hn.new a ha; omega)
  have h1n : ∀ W, Below w.heap.size w W → wpAnyH Tryd.prog .any ops_r4 Q (fun W => W.heap[Bv]? = some (.cells #[.int .i64 k, .int .i64 n, .slice ao m c] 30 (0, 0))) 7 #[true, true, true, false, false, false, false, false, false, false] (((a.put (some 40) (vv k n ao m c)).put (some 42) (opv none 0 0 2 ⟨#[107]⟩ 3 0 ⟨#[120]⟩)).put (some 41) (svT (atS 3))) W := fun W hb => by
    refine wpAnyH_ready (rs := [3, 7]) (by kernel_rfl) (by simp) ?_
    refine AllReadyH.call (d := 43) (f := 12) (args := #[vv k n ao m c, svT (atS 3), opv none 0 0 2 ⟨#[107]⟩ 3 0 ⟨#[120]⟩]) (OP := Op.call { callee := Callee.value (Operand.func 12), args := #[Operand.tmp 40, Operand.tmp 41, Operand.tmp 42], argTypes := #[30, 46, 50] }) (T := 32) rfl rfl rfl rfl (by rfl) (exec_call3 rfl (ev1 _) (ev3 _) (ev2 _)) ?_ ?_
    · refine (c2 W hb).mono ?_
      rintro e w' ⟨a', c', rfl, hn, b'⟩
      have hb' := hb.trans (b'.mono hb.size)
      exact ⟨_, rfl, hSb _ hb', h2n a' c' w' hb' (hn.weak hb.size)⟩
    · refine AllReadyH.turn (d := 6) (OP := Op.alloc 30) (T := 0) (v := .pointer (some ⟨W.heap.size, 0, none⟩)) (w' := W.alloc (.cells #[.int .i64 0, .int .i64 0, .slice none 0 0] 30)) rfl rfl rfl rfl (by rfl) (exec_alloc9 W) (hSb _ (hb.trans ((za W).mono hb.size))) ?_ AllReadyH.nil
      exact h1y W.heap.size _ (hb.trans ((za W).mono hb.size)) hb.size (heap_alloc_new W _)
  have h0y : ∀ B W, Below w.heap.size w W → w.heap.size ≤ B → W.heap[B]? = some (.cells #[.int .i64 0, .int .i64 0, .slice none 0 0] 30) → wpAnyH Tryd.prog .any ops_r4 Q (fun W => W.heap[Bv]? = some (.cells #[.int .i64 k, .int .i64 n, .slice ao m c] 30 (0, 0))) 7 #[true, false, true, false, false, false, false, true, false, false] (((a.put (some 40) (vv k n ao m c)).put (some 42) (opv none 0 0 2 ⟨#[107]⟩ 3 0 ⟨#[120]⟩)).put (some 6) (.pointer (some ⟨B, 0, none⟩))) W := fun B W hb hB hz => by
    refine wpAnyH_ready (rs := [1]) (by kernel_rfl) (by simp) ?_
    refine AllReadyH.call (d := 41) (f := 13) (args := #[.int .i64 3]) (OP := Op.call { callee := Callee.value (Operand.func 13), args := #[Operand.const (Value.int IntKind.i64 3)], argTypes := #[2] }) (T := 46) rfl rfl rfl rfl (by rfl) (by simp [execOp, resolve, invoke, go_sem, Act.eval]) ?_ AllReadyH.nil
    refine (c1 W).mono ?_
    rintro e w' ⟨rfl, b'⟩
    have hb' := hb.trans (b'.mono hb.size)
    have hBW := (Array.getElem?_eq_some_iff.1 hz).1
    refine ⟨_, rfl, hSb _ hb', ?_⟩
    rw [put_comm (show 6 ≠ 41 by decide)]
    exact h1y B w' hb' hB ((b'.block _ hBW).trans hz)
  refine wpAnyH_ready (rs := [1, 7]) (by kernel_rfl) (by simp) ?_
  refine AllReadyH.call (d := 41) (f := 13) (args := #[.int .i64 3]) (OP := Op.call { callee := Callee.value (Operand.func 13), args := #[Operand.const (Value.int IntKind.i64 3)], argTypes := #[2] }) (T := 46) rfl rfl rfl rfl (by rfl) (by simp [execOp, resolve, invoke, go_sem, Act.eval]) ?_ ?_
  · refine (c1 _).mono ?_
    rintro e w' ⟨rfl, b'⟩
    have hb' := hd.trans (b'.mono hd.size)
    exact ⟨_, rfl, hSb _ hb', h1n w' hb'⟩
  · refine AllReadyH.turn (d := 6) (OP := Op.alloc 30) (T := 0) (v := .pointer (some ⟨w.drew.heap.size, 0, none⟩)) (w' := w.drew.alloc (.cells #[.int .i64 0, .int .i64 0, .slice none 0 0] 30)) rfl rfl rfl rfl (by rfl) (exec_alloc9 _) (hSb _ (hd.trans ((za _).mono hd.size))) ?_ AllReadyH.nil
    exact h0y w.drew.heap.size _ (hd.trans ((za _).mono hd.size)) hd.size (heap_alloc_new _ _)

/-! Region 8. -/
def ops_r8 : Array Oper := #[{ dst := some 64, op := Go.Op.load 30 (Go.Operand.tmp 4), type := 30, pos := "law.go:27", after := #[], guard := none }, { dst := some 65, op := Go.Op.call { callee := Go.Callee.value (Go.Operand.func 13), args := #[Go.Operand.const (Go.Value.int Go.IntKind.i64 2)], argTypes := #[2] }, type := 46, pos := "law.go:27", after := #[], guard := none }, { dst := some 66, op := Go.Op.build 50 #[(1, Go.Operand.const (Go.Value.int Go.IntKind.i64 2)), (2, Go.Operand.const (Go.Value.string { data := #[107] })), (3, Go.Operand.const (Go.Value.int Go.IntKind.i64 2))], type := 50, pos := "law.go:27", after := #[], guard := none }, { dst := some 67, op := Go.Op.call { callee := Go.Callee.value (Go.Operand.func 12), args := #[Go.Operand.tmp 64, Go.Operand.tmp 65, Go.Operand.tmp 66], argTypes := #[30, 46, 50] }, type := 32, pos := "law.go:27", after := #[{ on := 0, ground := Go.Ground.data }, { on := 1, ground := Go.Ground.data }, { on := 2, ground := Go.Ground.data }, { on := 1, ground := Go.Ground.chain }], guard := none }, { dst := some 63, op := Go.Op.move (Go.Operand.tmp 67), type := 32, pos := "law.go:27", after := #[{ on := 3, ground := Go.Ground.data }], guard := none }, { dst := some 68, op := Go.Op.extract (Go.Operand.tmp 63) 0, type := 30, pos := "law.go:27", after := #[{ on := 4, ground := Go.Ground.data }], guard := none }, { dst := some 69, op := Go.Op.extract (Go.Operand.tmp 63) 1, type := 31, pos := "law.go:27", after := #[{ on := 4, ground := Go.Ground.data }, { on := 8, ground := Go.Ground.gcOnly Go.Departure.lateStores }], guard := none }, { dst := some 15, op := Go.Op.alloc 30, type := 0, pos := "law.go:27", after := #[], guard := none }, { dst := none, op := Go.Op.store 30 (Go.Operand.tmp 15) (Go.Operand.tmp 68), type := 0, pos := "law.go:27", after := #[{ on := 7, ground := Go.Ground.data }, { on := 5, ground := Go.Ground.data }, { on := 3, ground := Go.Ground.chain }, { on := 0, ground := Go.Ground.phase }, { on := 1, ground := Go.Ground.phase }, { on := 2, ground := Go.Ground.phase }, { on := 3, ground := Go.Ground.phase }, { on := 4, ground := Go.Ground.phase }, { on := 5, ground := Go.Ground.phase }, { on := 6, ground := Go.Ground.textOnly Go.Departure.lateStores }, { on := 7, ground := Go.Ground.phase }], guard := none }, { dst := some 16, op := Go.Op.assign (Go.Operand.tmp 69), type := 31, pos := "law.go:27", after := #[{ on := 6, ground := Go.Ground.data }, { on := 8, ground := Go.Ground.chain }, { on := 0, ground := Go.Ground.phase }, { on := 1, ground := Go.Ground.phase }, { on := 2, ground := Go.Ground.phase }, { on := 3, ground := Go.Ground.phase }, { on := 4, ground := Go.Ground.phase }, { on := 5, ground := Go.Ground.phase }, { on := 6, ground := Go.Ground.phase }, { on := 7, ground := Go.Ground.phase }, { on := 8, ground := Go.Ground.phase }], guard := none }]
theorem fin_r8 {Q : Exit → Act → World → Prop} {a : Act} {w : World} (hsz : a.tmps.size = 165) {Bv : Nat} {k n : Int} {ao : Option Addr} {m c : Nat} {K N Y : Int} {L : List El} {M : Nat}
    (hbv : Bv < w.heap.size) (hq : ∀ c a i v w, Q (.panic c) (a.put (some i) v) w → Q (.panic c) a w)
    (h : ∀ a' c' B W, Hid (Below w.heap.size w W ∧ w.heap.size ≤ B ∧ Nv W w.heap.size a' c' L ∧ W.heap[B]? = some (.cells #[.int .i64 K, .int .i64 N, .slice a' M c'] 30 (0, 0))) → Q .normal ((((((((((a.put (some 64) (vv k n ao m c)).put (some 66) (opv none 0 0 2 ⟨#[107]⟩ 2 0 ⟨#[]⟩)).put (some 65) (svT (atS 2))).put (some 67) (.tuple #[vv K N a' M c', .int .i64 Y])).put (some 63) (.tuple #[vv K N a' M c', .int .i64 Y]))).put (some 68) (vv K N a' M c')).put (some 69) (.int .i64 Y)).put (some 15) (.pointer (some ⟨B, 0, none⟩))).put (some 16) (.int .i64 Y)) W)
    (a' : Option Addr) (c' B : Nat) (W : World) (hb : Below w.heap.size w W) (hB : w.heap.size ≤ B) (hn : Nv W w.heap.size a' c' L) (hne : L ≠ [] → ∀ a, a' = some a → a.block ≠ B) (hz : W.heap[B]? = some (.cells #[.int .i64 0, .int .i64 0, .slice none 0 0] 30)) (hs : W.heap[Bv]? = some (.cells #[.int .i64 k, .int .i64 n, .slice ao m c] 30 (0, 0))) :
    wpAnyH Tryd.prog .any ops_r8 Q (fun W => W.heap[Bv]? = some (.cells #[.int .i64 k, .int .i64 n, .slice ao m c] 30 (0, 0))) 2 #[true, true, true, true, true, true, true, true, false, false] (((((((((a.put (some 64) (vv k n ao m c)).put (some 66) (opv none 0 0 2 ⟨#[107]⟩ 2 0 ⟨#[]⟩)).put (some 65) (svT (atS 2))).put (some 67) (.tuple #[vv K N a' M c', .int .i64 Y])).put (some 63) (.tuple #[vv K N a' M c', .int .i64 Y]))).put (some 68) (vv K N a' M c')).put (some 69) (.int .i64 Y)).put (some 15) (.pointer (some ⟨B, 0, none⟩))) W := by
  obtain ⟨s1, s2, s3⟩ := rowV hz (.int .i64 K) (.int .i64 N) (.slice a' M c')
  have hp1 : (((((((((a.put (some 64) (vv k n ao m c)).put (some 66) (opv none 0 0 2 ⟨#[107]⟩ 2 0 ⟨#[]⟩)).put (some 65) (svT (atS 2))).put (some 67) (.tuple #[vv K N a' M c', .int .i64 Y])).put (some 63) (.tuple #[vv K N a' M c', .int .i64 Y]))).put (some 68) (vv K N a' M c')).put (some 69) (.int .i64 Y)).put (some 15) (.pointer (some ⟨B, 0, none⟩))).eval (.tmp 15) = .pointer (some ⟨B, 0, none⟩) := eval_put_eq (by simp only [size_put]; omega)
  have hp2 : (((((((((a.put (some 64) (vv k n ao m c)).put (some 66) (opv none 0 0 2 ⟨#[107]⟩ 2 0 ⟨#[]⟩)).put (some 65) (svT (atS 2))).put (some 67) (.tuple #[vv K N a' M c', .int .i64 Y])).put (some 63) (.tuple #[vv K N a' M c', .int .i64 Y]))).put (some 68) (vv K N a' M c')).put (some 69) (.int .i64 Y)).put (some 15) (.pointer (some ⟨B, 0, none⟩))).eval (.tmp 68) = vv K N a' M c' := by rw [eval_put (by decide), eval_put (by decide)]; exact eval_put_eq (by simp only [size_put]; omega)
  have hp3 : (((((((((a.put (some 64) (vv k n ao m c)).put (some 66) (opv none 0 0 2 ⟨#[107]⟩ 2 0 ⟨#[]⟩)).put (some 65) (svT (atS 2))).put (some 67) (.tuple #[vv K N a' M c', .int .i64 Y])).put (some 63) (.tuple #[vv K N a' M c', .int .i64 Y]))).put (some 68) (vv K N a' M c')).put (some 69) (.int .i64 Y)).put (some 15) (.pointer (some ⟨B, 0, none⟩))).eval (.tmp 69) = .int .i64 Y := by rw [eval_put (by decide)]; exact eval_put_eq (by simp only [size_put]; omega)
  have hs' := (s2.block _ (Array.getElem?_eq_some_iff.1 hs).1 (by omega)).trans hs
  refine skip_op (i := 8) (OP := Op.store 30 (Operand.tmp 15) (Operand.tmp 68)) (T := 0) rfl rfl rfl rfl (by kernel_rfl) (by rfl) (exec_storeV hp1 hp2 hz) ⟨hs', ?_⟩
  refine take_op (i := 9) (d := 16) (OP := Op.assign (Operand.tmp 69)) (T := 31) (v := .int .i64 Y) rfl rfl rfl rfl (by kernel_rfl) (by kernel_rfl) (by kernel_rfl) (fun c a w h => hq c a _ _ w h) (by rfl) (fun w' _ => exec_assign9 hp3) hs' ?_
  refine wpAnyH_done (by kernel_rfl) ?_ _
  exact h a' c' B _ (hide ⟨Below.only hb s2 hb.size (fun j e => by omega), hB, hn.only s2 hne, s1⟩)
set_option maxHeartbeats 1000000 in
theorem wp_r8 {Q : Exit → Act → World → Prop} {a : Act} {w : World} (hsz : a.tmps.size = 165) (M : Nat) (K N Y : Int) (L : List El) (hM : M = L.length) {Bv : Nat} {k n : Int} {ao : Option Addr} {m c : Nat} (hp : a.eval (.tmp 4) = .pointer (some ⟨Bv, 0, none⟩)) (hbox : w.heap[Bv]? = some (.cells #[.int .i64 k, .int .i64 n, .slice ao m c] 30 (0, 0)))
    (c2 : ∀ W, Below w.heap.size w W → Calls Tryd.prog 12 #[vv k n ao m c, svT (atS 2), opv none 0 0 2 ⟨#[107]⟩ 2 0 ⟨#[]⟩] W (ValE W (K, N, L, Y)))
    (hq : ∀ c a i v w, Q (.panic c) (a.put (some i) v) w → Q (.panic c) a w)
    (h : ∀ a' c' B W, Hid (Below w.heap.size w W ∧ w.heap.size ≤ B ∧ Nv W w.heap.size a' c' L ∧ W.heap[B]? = some (.cells #[.int .i64 K, .int .i64 N, .slice a' M c'] 30 (0, 0))) → Q .normal ((((((((((a.put (some 64) (vv k n ao m c)).put (some 66) (opv none 0 0 2 ⟨#[107]⟩ 2 0 ⟨#[]⟩)).put (some 65) (svT (atS 2))).put (some 67) (.tuple #[vv K N a' M c', .int .i64 Y])).put (some 63) (.tuple #[vv K N a' M c', .int .i64 Y]))).put (some 68) (vv K N a' M c')).put (some 69) (.int .i64 Y)).put (some 15) (.pointer (some ⟨B, 0, none⟩))).put (some 16) (.int .i64 Y)) W) :
    (Code.region 8 ops_r8 true).wp Tryd.prog Q a w := by
  replace c2 : ∀ W, Below w.heap.size w W → Calls Tryd.prog 12 #[vv k n ao m c, svT (atS 2), opv none 0 0 2 ⟨#[107]⟩ 2 0 ⟨#[]⟩] W (fun e w' => ∃ a' c', e = .returned (.tuple #[vv K N a' M c', .int .i64 Y]) ∧ Nv w' W.heap.size a' c' L ∧ Below W.heap.size W w') := by subst hM; exact c2
  have hbv := (Array.getElem?_eq_some_iff.1 hbox).1
  have hSb : ∀ W, Below w.heap.size w W → W.heap[Bv]? = some (.cells #[.int .i64 k, .int .i64 n, .slice ao m c] 30 (0, 0)) := fun W hW => (hW.block _ hbv).trans hbox
  have hd : Below w.heap.size w w.drew := drew_below w
  have za : ∀ W : World, Below W.heap.size W (W.alloc (.cells #[.int .i64 0, .int .i64 0, .slice none 0 0] 30)) := fun W => (Below.refl _ W).alloc (Nat.le_refl _) _
  have c1 := fun W => at_any 2 W
  refine wp_region_held_drew (S := (fun W => W.heap[Bv]? = some (.cells #[.int .i64 k, .int .i64 n, .slice ao m c] 30 (0, 0)))) (by kernel_rfl) (hSb _ hd) (fun hHeld => ?_)
  refine take_op (i := 0) (d := 64) (OP := Op.load 30 (Operand.tmp 4)) (T := 30) (v := vv k n ao m c) rfl rfl rfl rfl (by kernel_rfl) (by kernel_rfl) (by kernel_rfl) (fun c a w h => hq c a _ _ w h) (by rfl) (fun w' hw' => exec_loadV hp hw') hHeld ?_
  refine take_op (i := 2) (d := 66) (OP := Op.build 50 #[(1, Operand.const (Value.int IntKind.i64 2)), (2, Operand.const (Value.string { data := #[107] })), (3, Operand.const (Value.int IntKind.i64 2))]) (T := 50) (v := opv none 0 0 2 ⟨#[107]⟩ 2 0 ⟨#[]⟩) rfl rfl rfl rfl (by kernel_rfl) (by kernel_rfl) (by kernel_rfl) (fun c a w h => hq c a _ _ w h) (by rfl) (fun w' hw' => by unfold execOp; go_simp <;> rfl) hHeld ?_
  have ev1 : ∀ v, (((a.put (some 64) (vv k n ao m c)).put (some 66) (opv none 0 0 2 ⟨#[107]⟩ 2 0 ⟨#[]⟩)).put (some 65) v).eval (.tmp 64) = vv k n ao m c := fun v => by rw [eval_put (by decide), eval_put (by decide)]; exact eval_put_eq (by omega)
  have ev2 : ∀ v, (((a.put (some 64) (vv k n ao m c)).put (some 66) (opv none 0 0 2 ⟨#[107]⟩ 2 0 ⟨#[]⟩)).put (some 65) v).eval (.tmp 66) = opv none 0 0 2 ⟨#[107]⟩ 2 0 ⟨#[]⟩ := fun v => by rw [eval_put (by decide)]; exact eval_put_eq (by simp only [size_put]; omega)
  have ev3 : ∀ v, (((a.put (some 64) (vv k n ao m c)).put (some 66) (opv none 0 0 2 ⟨#[107]⟩ 2 0 ⟨#[]⟩)).put (some 65) v).eval (.tmp 65) = v := fun v => eval_put_eq (by simp only [size_put]; omega)
  have h2n : ∀ a' c' W, Below w.heap.size w W → Nv W w.heap.size a' c' L → wpAnyH Tryd.prog .any ops_r8 Q (fun W => W.heap[Bv]? = some (.cells #[.int .i64 k, .int .i64 n, .slice ao m c] 30 (0, 0))) 6 #[true, true, true, true, false, false, false, false, false, false] ((((a.put (some 64) (vv k n ao m c)).put (some 66) (opv none 0 0 2 ⟨#[107]⟩ 2 0 ⟨#[]⟩)).put (some 65) (svT (atS 2))).put (some 67) (.tuple #[vv K N a' M c', .int .i64 Y])) W := fun a' c' W hb hn => by
    refine take_op (i := 4) (d := 63) (OP := Op.move (Operand.tmp 67)) (T := 32) (v := (.tuple #[vv K N a' M c', .int .i64 Y])) rfl rfl rfl rfl (by kernel_rfl) (by kernel_rfl) (by kernel_rfl) (fun c a w h => hq c a _ _ w h) (by rfl) (fun w' hw' => exec_move9 (eval_put_eq (by simp only [size_put]; omega))) (hSb W hb) ?_
    refine take_op (i := 5) (d := 68) (OP := Op.extract (Operand.tmp 63) 0) (T := 30) (v := vv K N a' M c') rfl rfl rfl rfl (by kernel_rfl) (by kernel_rfl) (by kernel_rfl) (fun c a w h => hq c a _ _ w h) (by rfl) (fun w' hw' => (exec_ext9 (eval_put_eq (by simp only [size_put]; omega))).1) (hSb W hb) ?_
    refine take_op (i := 6) (d := 69) (OP := Op.extract (Operand.tmp 63) 1) (T := 31) (v := .int .i64 Y) rfl rfl rfl rfl (by kernel_rfl) (by kernel_rfl) (by kernel_rfl) (fun c a w h => hq c a _ _ w h) (by rfl) (fun w' hw' => (exec_ext9 (by rw [eval_put (by decide)]; exact eval_put_eq (by simp only [size_put]; omega))).2) (hSb W hb) ?_
    refine wpAnyH_ready (rs := [7]) (by kernel_rfl) (by simp) ?_
    refine AllReadyH.turn (d := 15) (OP := Op.alloc 30) (T := 0) (v := .pointer (some ⟨W.heap.size, 0, none⟩)) (w' := W.alloc (.cells #[.int .i64 0, .int .i64 0, .slice none 0 0] 30)) rfl rfl rfl rfl (by rfl) (exec_alloc9 W) (hSb _ (hb.trans ((za W).mono hb.size))) ?_ AllReadyH.nil
    exact fin_r8 hsz hbv hq h a' c' W.heap.size _ (hb.trans ((za W).mono hb.size)) hb.size (hn.belowN (za W)) (fun hl a ha => by have := hn.lt hl a ha; omega) (heap_alloc_new W _) (hSb _ (hb.trans ((za W).mono hb.size)))
  have h2y : ∀ a' c' B W, Below w.heap.size w W → Nv W w.heap.size a' c' L → w.heap.size ≤ B → W.heap[B]? = some (.cells #[.int .i64 0, .int .i64 0, .slice none 0 0] 30) → (L ≠ [] → ∀ a, a' = some a → a.block ≠ B) → wpAnyH Tryd.prog .any ops_r8 Q (fun W => W.heap[Bv]? = some (.cells #[.int .i64 k, .int .i64 n, .slice ao m c] 30 (0, 0))) 5 #[true, true, true, true, false, false, false, true, false, false] (((((a.put (some 64) (vv k n ao m c)).put (some 66) (opv none 0 0 2 ⟨#[107]⟩ 2 0 ⟨#[]⟩)).put (some 65) (svT (atS 2))).put (some 67) (.tuple #[vv K N a' M c', .int .i64 Y])).put (some 15) (.pointer (some ⟨B, 0, none⟩))) W := fun a' c' B W hb hn hB hz hne => by
    refine take_op (i := 4) (d := 63) (OP := Op.move (Operand.tmp 67)) (T := 32) (v := (.tuple #[vv K N a' M c', .int .i64 Y])) rfl rfl rfl rfl (by kernel_rfl) (by kernel_rfl) (by kernel_rfl) (fun c a w h => hq c a _ _ w h) (by rfl) (fun w' hw' => exec_move9 (by rw [eval_put (by decide)]; exact eval_put_eq (by simp only [size_put]; omega))) (hSb W hb) ?_
    rw [put_comm (show 15 ≠ 63 by decide)]
    refine take_op (i := 5) (d := 68) (OP := Op.extract (Operand.tmp 63) 0) (T := 30) (v := vv K N a' M c') rfl rfl rfl rfl (by kernel_rfl) (by kernel_rfl) (by kernel_rfl) (fun c a w h => hq c a _ _ w h) (by rfl) (fun w' hw' => (exec_ext9 (by rw [eval_put (by decide)]; exact eval_put_eq (by simp only [size_put]; omega))).1) (hSb W hb) ?_
    rw [put_comm (show 15 ≠ 68 by decide)]
    refine take_op (i := 6) (d := 69) (OP := Op.extract (Operand.tmp 63) 1) (T := 31) (v := .int .i64 Y) rfl rfl rfl rfl (by kernel_rfl) (by kernel_rfl) (by kernel_rfl) (fun c a w h => hq c a _ _ w h) (by rfl) (fun w' hw' => (exec_ext9 (by rw [eval_put (by decide), eval_put (by decide)]; exact eval_put_eq (by simp only [size_put]; omega))).2) (hSb W hb) ?_
    rw [put_comm (show 15 ≠ 69 by decide)]
    exact fin_r8 hsz hbv hq h a' c' B _ hb hB hn hne hz (hSb _ hb)
  have h1y : ∀ B W, Below w.heap.size w W → w.heap.size ≤ B → W.heap[B]? = some (.cells #[.int .i64 0, .int .i64 0, .slice none 0 0] 30) → wpAnyH Tryd.prog .any ops_r8 Q (fun W => W.heap[Bv]? = some (.cells #[.int .i64 k, .int .i64 n, .slice ao m c] 30 (0, 0))) 6 #[true, true, true, false, false, false, false, true, false, false] ((((a.put (some 64) (vv k n ao m c)).put (some 66) (opv none 0 0 2 ⟨#[107]⟩ 2 0 ⟨#[]⟩)).put (some 65) (svT (atS 2))).put (some 15) (.pointer (some ⟨B, 0, none⟩))) W := fun B W hb hB hz => by
    refine wpAnyH_ready (rs := [3]) (by kernel_rfl) (by simp) ?_
    refine AllReadyH.call (d := 67) (f := 12) (args := #[vv k n ao m c, svT (atS 2), opv none 0 0 2 ⟨#[107]⟩ 2 0 ⟨#[]⟩]) (OP := Op.call { callee := Callee.value (Operand.func 12), args := #[Operand.tmp 64, Operand.tmp 65, Operand.tmp 66], argTypes := #[30, 46, 50] }) (T := 32) rfl rfl rfl rfl (by rfl) (exec_call3 rfl (by rw [eval_put (by decide)]; exact ev1 _) (by rw [eval_put (by decide)]; exact ev3 _) (by rw [eval_put (by decide)]; exact ev2 _)) ?_ AllReadyH.nil
    refine (c2 W hb).mono ?_
    rintro e w' ⟨a', c', rfl, hn, b'⟩
    have hb' := hb.trans (b'.mono hb.size)
    have hBW := (Array.getElem?_eq_some_iff.1 hz).1
    refine ⟨_, rfl, hSb _ hb', ?_⟩
    rw [put_comm (show 15 ≠ 67 by decide)]
    exact h2y a' c' B w' hb' (hn.weak hb.size) hB ((b'.block _ hBW).trans hz) (fun _ a ha => by have := hn.new a ha; omega)
  have h1n : ∀ W, Below w.heap.size w W → wpAnyH Tryd.prog .any ops_r8 Q (fun W => W.heap[Bv]? = some (.cells #[.int .i64 k, .int .i64 n, .slice ao m c] 30 (0, 0))) 7 #[true, true, true, false, false, false, false, false, false, false] (((a.put (some 64) (vv k n ao m c)).put (some 66) (opv none 0 0 2 ⟨#[107]⟩ 2 0 ⟨#[]⟩)).put (some 65) (svT (atS 2))) W := fun W hb => by
    refine wpAnyH_ready (rs := [3, 7]) (by kernel_rfl) (by simp) ?_
    refine AllReadyH.call (d := 67) (f := 12) (args := #[vv k n ao m c, svT (atS 2), opv none 0 0 2 ⟨#[107]⟩ 2 0 ⟨#[]⟩]) (OP := Op.call { callee := Callee.value (Operand.func 12), args := #[Operand.tmp 64, Operand.tmp 65, Operand.tmp 66], argTypes := #[30, 46, 50] }) (T := 32) rfl rfl rfl rfl (by rfl) (exec_call3 rfl (ev1 _) (ev3 _) (ev2 _)) ?_ ?_
    · refine (c2 W hb).mono ?_
      rintro e w' ⟨a', c', rfl, hn, b'⟩
      have hb' := hb.trans (b'.mono hb.size)
      exact ⟨_, rfl, hSb _ hb', h2n a' c' w' hb' (hn.weak hb.size)⟩
    · refine AllReadyH.turn (d := 15) (OP := Op.alloc 30) (T := 0) (v := .pointer (some ⟨W.heap.size, 0, none⟩)) (w' := W.alloc (.cells #[.int .i64 0, .int .i64 0, .slice none 0 0] 30)) rfl rfl rfl rfl (by rfl) (exec_alloc9 W) (hSb _ (hb.trans ((za W).mono hb.size))) ?_ AllReadyH.nil
      exact h1y W.heap.size _ (hb.trans ((za W).mono hb.size)) hb.size (heap_alloc_new W _)
  have h0y : ∀ B W, Below w.heap.size w W → w.heap.size ≤ B → W.heap[B]? = some (.cells #[.int .i64 0, .int .i64 0, .slice none 0 0] 30) → wpAnyH Tryd.prog .any ops_r8 Q (fun W => W.heap[Bv]? = some (.cells #[.int .i64 k, .int .i64 n, .slice ao m c] 30 (0, 0))) 7 #[true, false, true, false, false, false, false, true, false, false] (((a.put (some 64) (vv k n ao m c)).put (some 66) (opv none 0 0 2 ⟨#[107]⟩ 2 0 ⟨#[]⟩)).put (some 15) (.pointer (some ⟨B, 0, none⟩))) W := fun B W hb hB hz => by
    refine wpAnyH_ready (rs := [1]) (by kernel_rfl) (by simp) ?_
    refine AllReadyH.call (d := 65) (f := 13) (args := #[.int .i64 2]) (OP := Op.call { callee := Callee.value (Operand.func 13), args := #[Operand.const (Value.int IntKind.i64 2)], argTypes := #[2] }) (T := 46) rfl rfl rfl rfl (by rfl) (by simp [execOp, resolve, invoke, go_sem, Act.eval]) ?_ AllReadyH.nil
    refine (c1 W).mono ?_
    rintro e w' ⟨rfl, b'⟩
    have hb' := hb.trans (b'.mono hb.size)
    have hBW := (Array.getElem?_eq_some_iff.1 hz).1
    refine ⟨_, rfl, hSb _ hb', ?_⟩
    rw [put_comm (show 15 ≠ 65 by decide)]
    exact h1y B w' hb' hB ((b'.block _ hBW).trans hz)
  refine wpAnyH_ready (rs := [1, 7]) (by kernel_rfl) (by simp) ?_
  refine AllReadyH.call (d := 65) (f := 13) (args := #[.int .i64 2]) (OP := Op.call { callee := Callee.value (Operand.func 13), args := #[Operand.const (Value.int IntKind.i64 2)], argTypes := #[2] }) (T := 46) rfl rfl rfl rfl (by rfl) (by simp [execOp, resolve, invoke, go_sem, Act.eval]) ?_ ?_
  · refine (c1 _).mono ?_
    rintro e w' ⟨rfl, b'⟩
    have hb' := hd.trans (b'.mono hd.size)
    exact ⟨_, rfl, hSb _ hb', h1n w' hb'⟩
  · refine AllReadyH.turn (d := 15) (OP := Op.alloc 30) (T := 0) (v := .pointer (some ⟨w.drew.heap.size, 0, none⟩)) (w' := w.drew.alloc (.cells #[.int .i64 0, .int .i64 0, .slice none 0 0] 30)) rfl rfl rfl rfl (by rfl) (exec_alloc9 _) (hSb _ (hd.trans ((za _).mono hd.size))) ?_ AllReadyH.nil
    exact h0y w.drew.heap.size _ (hd.trans ((za _).mono hd.size)) hd.size (heap_alloc_new _ _)

/-! Region 10. -/
def ops_r10 : Array Oper := #[{ dst := some 83, op := Go.Op.load 30 (Go.Operand.tmp 4), type := 30, pos := "law.go:29", after := #[], guard := none }, { dst := some 84, op := Go.Op.call { callee := Go.Callee.value (Go.Operand.func 13), args := #[Go.Operand.const (Go.Value.int Go.IntKind.i64 3)], argTypes := #[2] }, type := 46, pos := "law.go:29", after := #[], guard := none }, { dst := some 85, op := Go.Op.build 50 #[(1, Go.Operand.const (Go.Value.int Go.IntKind.i64 4)), (2, Go.Operand.const (Go.Value.string { data := #[107] })), (3, Go.Operand.const (Go.Value.int Go.IntKind.i64 6)), (5, Go.Operand.const (Go.Value.string { data := #[120] }))], type := 50, pos := "law.go:29", after := #[], guard := none }, { dst := some 86, op := Go.Op.call { callee := Go.Callee.value (Go.Operand.func 12), args := #[Go.Operand.tmp 83, Go.Operand.tmp 84, Go.Operand.tmp 85], argTypes := #[30, 46, 50] }, type := 32, pos := "law.go:29", after := #[{ on := 0, ground := Go.Ground.data }, { on := 1, ground := Go.Ground.data }, { on := 2, ground := Go.Ground.data }, { on := 1, ground := Go.Ground.chain }], guard := none }, { dst := some 82, op := Go.Op.move (Go.Operand.tmp 86), type := 32, pos := "law.go:29", after := #[{ on := 3, ground := Go.Ground.data }], guard := none }, { dst := some 87, op := Go.Op.extract (Go.Operand.tmp 82) 0, type := 30, pos := "law.go:29", after := #[{ on := 4, ground := Go.Ground.data }], guard := none }, { dst := some 88, op := Go.Op.extract (Go.Operand.tmp 82) 1, type := 31, pos := "law.go:29", after := #[{ on := 4, ground := Go.Ground.data }, { on := 8, ground := Go.Ground.gcOnly Go.Departure.lateStores }], guard := none }, { dst := some 19, op := Go.Op.alloc 30, type := 0, pos := "law.go:29", after := #[], guard := none }, { dst := none, op := Go.Op.store 30 (Go.Operand.tmp 19) (Go.Operand.tmp 87), type := 0, pos := "law.go:29", after := #[{ on := 7, ground := Go.Ground.data }, { on := 5, ground := Go.Ground.data }, { on := 3, ground := Go.Ground.chain }, { on := 0, ground := Go.Ground.phase }, { on := 1, ground := Go.Ground.phase }, { on := 2, ground := Go.Ground.phase }, { on := 3, ground := Go.Ground.phase }, { on := 4, ground := Go.Ground.phase }, { on := 5, ground := Go.Ground.phase }, { on := 6, ground := Go.Ground.textOnly Go.Departure.lateStores }, { on := 7, ground := Go.Ground.phase }], guard := none }, { dst := some 20, op := Go.Op.assign (Go.Operand.tmp 88), type := 31, pos := "law.go:29", after := #[{ on := 6, ground := Go.Ground.data }, { on := 8, ground := Go.Ground.chain }, { on := 0, ground := Go.Ground.phase }, { on := 1, ground := Go.Ground.phase }, { on := 2, ground := Go.Ground.phase }, { on := 3, ground := Go.Ground.phase }, { on := 4, ground := Go.Ground.phase }, { on := 5, ground := Go.Ground.phase }, { on := 6, ground := Go.Ground.phase }, { on := 7, ground := Go.Ground.phase }, { on := 8, ground := Go.Ground.phase }], guard := none }]
theorem fin_r10 {Q : Exit → Act → World → Prop} {a : Act} {w : World} (hsz : a.tmps.size = 165) {Bv : Nat} {k n : Int} {ao : Option Addr} {m c : Nat} {K N Y : Int} {L : List El} {M : Nat}
    (hbv : Bv < w.heap.size) (hq : ∀ c a i v w, Q (.panic c) (a.put (some i) v) w → Q (.panic c) a w)
    (h : ∀ a' c' B W, Hid (Below w.heap.size w W ∧ w.heap.size ≤ B ∧ Nv W w.heap.size a' c' L ∧ W.heap[B]? = some (.cells #[.int .i64 K, .int .i64 N, .slice a' M c'] 30 (0, 0))) → Q .normal ((((((((((a.put (some 83) (vv k n ao m c)).put (some 85) (opv none 0 0 4 ⟨#[107]⟩ 6 0 ⟨#[120]⟩)).put (some 84) (svT (atS 3))).put (some 86) (.tuple #[vv K N a' M c', .int .i64 Y])).put (some 82) (.tuple #[vv K N a' M c', .int .i64 Y]))).put (some 87) (vv K N a' M c')).put (some 88) (.int .i64 Y)).put (some 19) (.pointer (some ⟨B, 0, none⟩))).put (some 20) (.int .i64 Y)) W)
    (a' : Option Addr) (c' B : Nat) (W : World) (hb : Below w.heap.size w W) (hB : w.heap.size ≤ B) (hn : Nv W w.heap.size a' c' L) (hne : L ≠ [] → ∀ a, a' = some a → a.block ≠ B) (hz : W.heap[B]? = some (.cells #[.int .i64 0, .int .i64 0, .slice none 0 0] 30)) (hs : W.heap[Bv]? = some (.cells #[.int .i64 k, .int .i64 n, .slice ao m c] 30 (0, 0))) :
    wpAnyH Tryd.prog .any ops_r10 Q (fun W => W.heap[Bv]? = some (.cells #[.int .i64 k, .int .i64 n, .slice ao m c] 30 (0, 0))) 2 #[true, true, true, true, true, true, true, true, false, false] (((((((((a.put (some 83) (vv k n ao m c)).put (some 85) (opv none 0 0 4 ⟨#[107]⟩ 6 0 ⟨#[120]⟩)).put (some 84) (svT (atS 3))).put (some 86) (.tuple #[vv K N a' M c', .int .i64 Y])).put (some 82) (.tuple #[vv K N a' M c', .int .i64 Y]))).put (some 87) (vv K N a' M c')).put (some 88) (.int .i64 Y)).put (some 19) (.pointer (some ⟨B, 0, none⟩))) W := by
  obtain ⟨s1, s2, s3⟩ := rowV hz (.int .i64 K) (.int .i64 N) (.slice a' M c')
  have hp1 : (((((((((a.put (some 83) (vv k n ao m c)).put (some 85) (opv none 0 0 4 ⟨#[107]⟩ 6 0 ⟨#[120]⟩)).put (some 84) (svT (atS 3))).put (some 86) (.tuple #[vv K N a' M c', .int .i64 Y])).put (some 82) (.tuple #[vv K N a' M c', .int .i64 Y]))).put (some 87) (vv K N a' M c')).put (some 88) (.int .i64 Y)).put (some 19) (.pointer (some ⟨B, 0, none⟩))).eval (.tmp 19) = .pointer (some ⟨B, 0, none⟩) := eval_put_eq (by simp only [size_put]; omega)
  have hp2 : (((((((((a.put (some 83) (vv k n ao m c)).put (some 85) (opv none 0 0 4 ⟨#[107]⟩ 6 0 ⟨#[120]⟩)).put (some 84) (svT (atS 3))).put (some 86) (.tuple #[vv K N a' M c', .int .i64 Y])).put (some 82) (.tuple #[vv K N a' M c', .int .i64 Y]))).put (some 87) (vv K N a' M c')).put (some 88) (.int .i64 Y)).put (some 19) (.pointer (some ⟨B, 0, none⟩))).eval (.tmp 87) = vv K N a' M c' := by rw [eval_put (by decide), eval_put (by decide)]; exact eval_put_eq (by simp only [size_put]; omega)
  have hp3 : (((((((((a.put (some 83) (vv k n ao m c)).put (some 85) (opv none 0 0 4 ⟨#[107]⟩ 6 0 ⟨#[120]⟩)).put (some 84) (svT (atS 3))).put (some 86) (.tuple #[vv K N a' M c', .int .i64 Y])).put (some 82) (.tuple #[vv K N a' M c', .int .i64 Y]))).put (some 87) (vv K N a' M c')).put (some 88) (.int .i64 Y)).put (some 19) (.pointer (some ⟨B, 0, none⟩))).eval (.tmp 88) = .int .i64 Y := by rw [eval_put (by decide)]; exact eval_put_eq (by simp only [size_put]; omega)
  have hs' := (s2.block _ (Array.getElem?_eq_some_iff.1 hs).1 (by omega)).trans hs
  refine skip_op (i := 8) (OP := Op.store 30 (Operand.tmp 19) (Operand.tmp 87)) (T := 0) rfl rfl rfl rfl (by kernel_rfl) (by rfl) (exec_storeV hp1 hp2 hz) ⟨hs', ?_⟩
  refine take_op (i := 9) (d := 20) (OP := Op.assign (Operand.tmp 88)) (T := 31) (v := .int .i64 Y) rfl rfl rfl rfl (by kernel_rfl) (by kernel_rfl) (by kernel_rfl) (fun c a w h => hq c a _ _ w h) (by rfl) (fun w' _ => exec_assign9 hp3) hs' ?_
  refine wpAnyH_done (by kernel_rfl) ?_ _
  exact h a' c' B _ (hide ⟨Below.only hb s2 hb.size (fun j e => by omega), hB, hn.only s2 hne, s1⟩)
set_option maxHeartbeats 1000000 in
theorem wp_r10 {Q : Exit → Act → World → Prop} {a : Act} {w : World} (hsz : a.tmps.size = 165) (M : Nat) (K N Y : Int) (L : List El) (hM : M = L.length) {Bv : Nat} {k n : Int} {ao : Option Addr} {m c : Nat} (hp : a.eval (.tmp 4) = .pointer (some ⟨Bv, 0, none⟩)) (hbox : w.heap[Bv]? = some (.cells #[.int .i64 k, .int .i64 n, .slice ao m c] 30 (0, 0)))
    (c2 : ∀ W, Below w.heap.size w W → Calls Tryd.prog 12 #[vv k n ao m c, svT (atS 3), opv none 0 0 4 ⟨#[107]⟩ 6 0 ⟨#[120]⟩] W (ValE W (K, N, L, Y)))
    (hq : ∀ c a i v w, Q (.panic c) (a.put (some i) v) w → Q (.panic c) a w)
    (h : ∀ a' c' B W, Hid (Below w.heap.size w W ∧ w.heap.size ≤ B ∧ Nv W w.heap.size a' c' L ∧ W.heap[B]? = some (.cells #[.int .i64 K, .int .i64 N, .slice a' M c'] 30 (0, 0))) → Q .normal ((((((((((a.put (some 83) (vv k n ao m c)).put (some 85) (opv none 0 0 4 ⟨#[107]⟩ 6 0 ⟨#[120]⟩)).put (some 84) (svT (atS 3))).put (some 86) (.tuple #[vv K N a' M c', .int .i64 Y])).put (some 82) (.tuple #[vv K N a' M c', .int .i64 Y]))).put (some 87) (vv K N a' M c')).put (some 88) (.int .i64 Y)).put (some 19) (.pointer (some ⟨B, 0, none⟩))).put (some 20) (.int .i64 Y)) W) :
    (Code.region 10 ops_r10 true).wp Tryd.prog Q a w := by
  replace c2 : ∀ W, Below w.heap.size w W → Calls Tryd.prog 12 #[vv k n ao m c, svT (atS 3), opv none 0 0 4 ⟨#[107]⟩ 6 0 ⟨#[120]⟩] W (fun e w' => ∃ a' c', e = .returned (.tuple #[vv K N a' M c', .int .i64 Y]) ∧ Nv w' W.heap.size a' c' L ∧ Below W.heap.size W w') := by subst hM; exact c2
  have hbv := (Array.getElem?_eq_some_iff.1 hbox).1
  have hSb : ∀ W, Below w.heap.size w W → W.heap[Bv]? = some (.cells #[.int .i64 k, .int .i64 n, .slice ao m c] 30 (0, 0)) := fun W hW => (hW.block _ hbv).trans hbox
  have hd : Below w.heap.size w w.drew := drew_below w
  have za : ∀ W : World, Below W.heap.size W (W.alloc (.cells #[.int .i64 0, .int .i64 0, .slice none 0 0] 30)) := fun W => (Below.refl _ W).alloc (Nat.le_refl _) _
  have c1 := fun W => at_any 3 W
  refine wp_region_held_drew (S := (fun W => W.heap[Bv]? = some (.cells #[.int .i64 k, .int .i64 n, .slice ao m c] 30 (0, 0)))) (by kernel_rfl) (hSb _ hd) (fun hHeld => ?_)
  refine take_op (i := 0) (d := 83) (OP := Op.load 30 (Operand.tmp 4)) (T := 30) (v := vv k n ao m c) rfl rfl rfl rfl (by kernel_rfl) (by kernel_rfl) (by kernel_rfl) (fun c a w h => hq c a _ _ w h) (by rfl) (fun w' hw' => exec_loadV hp hw') hHeld ?_
  refine take_op (i := 2) (d := 85) (OP := Op.build 50 #[(1, Operand.const (Value.int IntKind.i64 4)), (2, Operand.const (Value.string { data := #[107] })), (3, Operand.const (Value.int IntKind.i64 6)), (5, Operand.const (Value.string { data := #[120] }))]) (T := 50) (v := opv none 0 0 4 ⟨#[107]⟩ 6 0 ⟨#[120]⟩) rfl rfl rfl rfl (by kernel_rfl) (by kernel_rfl) (by kernel_rfl) (fun c a w h => hq c a _ _ w h) (by rfl) (fun w' hw' => by unfold execOp; go_simp <;> rfl) hHeld ?_
  have ev1 : ∀ v, (((a.put (some 83) (vv k n ao m c)).put (some 85) (opv none 0 0 4 ⟨#[107]⟩ 6 0 ⟨#[120]⟩)).put (some 84) v).eval (.tmp 83) = vv k n ao m c := fun v => by rw [eval_put (by decide), eval_put (by decide)]; exact eval_put_eq (by omega)
  have ev2 : ∀ v, (((a.put (some 83) (vv k n ao m c)).put (some 85) (opv none 0 0 4 ⟨#[107]⟩ 6 0 ⟨#[120]⟩)).put (some 84) v).eval (.tmp 85) = opv none 0 0 4 ⟨#[107]⟩ 6 0 ⟨#[120]⟩ := fun v => by rw [eval_put (by decide)]; exact eval_put_eq (by simp only [size_put]; omega)
  have ev3 : ∀ v, (((a.put (some 83) (vv k n ao m c)).put (some 85) (opv none 0 0 4 ⟨#[107]⟩ 6 0 ⟨#[120]⟩)).put (some 84) v).eval (.tmp 84) = v := fun v => eval_put_eq (by simp only [size_put]; omega)
  have h2n : ∀ a' c' W, Below w.heap.size w W → Nv W w.heap.size a' c' L → wpAnyH Tryd.prog .any ops_r10 Q (fun W => W.heap[Bv]? = some (.cells #[.int .i64 k, .int .i64 n, .slice ao m c] 30 (0, 0))) 6 #[true, true, true, true, false, false, false, false, false, false] ((((a.put (some 83) (vv k n ao m c)).put (some 85) (opv none 0 0 4 ⟨#[107]⟩ 6 0 ⟨#[120]⟩)).put (some 84) (svT (atS 3))).put (some 86) (.tuple #[vv K N a' M c', .int .i64 Y])) W := fun a' c' W hb hn => by
    refine take_op (i := 4) (d := 82) (OP := Op.move (Operand.tmp 86)) (T := 32) (v := (.tuple #[vv K N a' M c', .int .i64 Y])) rfl rfl rfl rfl (by kernel_rfl) (by kernel_rfl) (by kernel_rfl) (fun c a w h => hq c a _ _ w h) (by rfl) (fun w' hw' => exec_move9 (eval_put_eq (by simp only [size_put]; omega))) (hSb W hb) ?_
    refine take_op (i := 5) (d := 87) (OP := Op.extract (Operand.tmp 82) 0) (T := 30) (v := vv K N a' M c') rfl rfl rfl rfl (by kernel_rfl) (by kernel_rfl) (by kernel_rfl) (fun c a w h => hq c a _ _ w h) (by rfl) (fun w' hw' => (exec_ext9 (eval_put_eq (by simp only [size_put]; omega))).1) (hSb W hb) ?_
    refine take_op (i := 6) (d := 88) (OP := Op.extract (Operand.tmp 82) 1) (T := 31) (v := .int .i64 Y) rfl rfl rfl rfl (by kernel_rfl) (by kernel_rfl) (by kernel_rfl) (fun c a w h => hq c a _ _ w h) (by rfl) (fun w' hw' => (exec_ext9 (by rw [eval_put (by decide)]; exact eval_put_eq (by simp only [size_put]; omega))).2) (hSb W hb) ?_
    refine wpAnyH_ready (rs := [7]) (by kernel_rfl) (by simp) ?_
    refine AllReadyH.turn (d := 19) (OP := Op.alloc 30) (T := 0) (v := .pointer (some ⟨W.heap.size, 0, none⟩)) (w' := W.alloc (.cells #[.int .i64 0, .int .i64 0, .slice none 0 0] 30)) rfl rfl rfl rfl (by rfl) (exec_alloc9 W) (hSb _ (hb.trans ((za W).mono hb.size))) ?_ AllReadyH.nil
    exact fin_r10 hsz hbv hq h a' c' W.heap.size _ (hb.trans ((za W).mono hb.size)) hb.size (hn.belowN (za W)) (fun hl a ha => by have := hn.lt hl a ha; omega) (heap_alloc_new W _) (hSb _ (hb.trans ((za W).mono hb.size)))
  have h2y : ∀ a' c' B W, Below w.heap.size w W → Nv W w.heap.size a' c' L → w.heap.size ≤ B → W.heap[B]? = some (.cells #[.int .i64 0, .int .i64 0, .slice none 0 0] 30) → (L ≠ [] → ∀ a, a' = some a → a.block ≠ B) → wpAnyH Tryd.prog .any ops_r10 Q (fun W => W.heap[Bv]? = some (.cells #[.int .i64 k, .int .i64 n, .slice ao m c] 30 (0, 0))) 5 #[true, true, true, true, false, false, false, true, false, false] (((((a.put (some 83) (vv k n ao m c)).put (some 85) (opv none 0 0 4 ⟨#[107]⟩ 6 0 ⟨#[120]⟩)).put (some 84) (svT (atS 3))).put (some 86) (.tuple #[vv K N a' M c', .int .i64 Y])).put (some 19) (.pointer (some ⟨B, 0, none⟩))) W := fun a' c' B W hb hn hB hz hne => by
    refine take_op (i := 4) (d := 82) (OP := Op.move (Operand.tmp 86)) (T := 32) (v := (.tuple #[vv K N a' M c', .int .i64 Y])) rfl rfl rfl rfl (by kernel_rfl) (by kernel_rfl) (by kernel_rfl) (fun c a w h => hq c a _ _ w h) (by rfl) (fun w' hw' => exec_move9 (by rw [eval_put (by decide)]; exact eval_put_eq (by simp only [size_put]; omega))) (hSb W hb) ?_
    rw [put_comm (show 19 ≠ 82 by decide)]
    refine take_op (i := 5) (d := 87) (OP := Op.extract (Operand.tmp 82) 0) (T := 30) (v := vv K N a' M c') rfl rfl rfl rfl (by kernel_rfl) (by kernel_rfl) (by kernel_rfl) (fun c a w h => hq c a _ _ w h) (by rfl) (fun w' hw' => (exec_ext9 (by rw [eval_put (by decide)]; exact eval_put_eq (by simp only [size_put]; omega))).1) (hSb W hb) ?_
    rw [put_comm (show 19 ≠ 87 by decide)]
    refine take_op (i := 6) (d := 88) (OP := Op.extract (Operand.tmp 82) 1) (T := 31) (v := .int .i64 Y) rfl rfl rfl rfl (by kernel_rfl) (by kernel_rfl) (by kernel_rfl) (fun c a w h => hq c a _ _ w h) (by rfl) (fun w' hw' => (exec_ext9 (by rw [eval_put (by decide), eval_put (by decide)]; exact eval_put_eq (by simp only [size_put]; omega))).2) (hSb W hb) ?_
    rw [put_comm (show 19 ≠ 88 by decide)]
    exact fin_r10 hsz hbv hq h a' c' B _ hb hB hn hne hz (hSb _ hb)
  have h1y : ∀ B W, Below w.heap.size w W → w.heap.size ≤ B → W.heap[B]? = some (.cells #[.int .i64 0, .int .i64 0, .slice none 0 0] 30) → wpAnyH Tryd.prog .any ops_r10 Q (fun W => W.heap[Bv]? = some (.cells #[.int .i64 k, .int .i64 n, .slice ao m c] 30 (0, 0))) 6 #[true, true, true, false, false, false, false, true, false, false] ((((a.put (some 83) (vv k n ao m c)).put (some 85) (opv none 0 0 4 ⟨#[107]⟩ 6 0 ⟨#[120]⟩)).put (some 84) (svT (atS 3))).put (some 19) (.pointer (some ⟨B, 0, none⟩))) W := fun B W hb hB hz => by
    refine wpAnyH_ready (rs := [3]) (by kernel_rfl) (by simp) ?_
    refine AllReadyH.call (d := 86) (f := 12) (args := #[vv k n ao m c, svT (atS 3), opv none 0 0 4 ⟨#[107]⟩ 6 0 ⟨#[120]⟩]) (OP := Op.call { callee := Callee.value (Operand.func 12), args := #[Operand.tmp 83, Operand.tmp 84, Operand.tmp 85], argTypes := #[30, 46, 50] }) (T := 32) rfl rfl rfl rfl (by rfl) (exec_call3 rfl (by rw [eval_put (by decide)]; exact ev1 _) (by rw [eval_put (by decide)]; exact ev3 _) (by rw [eval_put (by decide)]; exact ev2 _)) ?_ AllReadyH.nil
    refine (c2 W hb).mono ?_
    rintro e w' ⟨a', c', rfl, hn, b'⟩
    have hb' := hb.trans (b'.mono hb.size)
    have hBW := (Array.getElem?_eq_some_iff.1 hz).1
    refine ⟨_, rfl, hSb _ hb', ?_⟩
    rw [put_comm (show 19 ≠ 86 by decide)]
    exact h2y a' c' B w' hb' (hn.weak hb.size) hB ((b'.block _ hBW).trans hz) (fun _ a ha => by have := hn.new a ha; omega)
  have h1n : ∀ W, Below w.heap.size w W → wpAnyH Tryd.prog .any ops_r10 Q (fun W => W.heap[Bv]? = some (.cells #[.int .i64 k, .int .i64 n, .slice ao m c] 30 (0, 0))) 7 #[true, true, true, false, false, false, false, false, false, false] (((a.put (some 83) (vv k n ao m c)).put (some 85) (opv none 0 0 4 ⟨#[107]⟩ 6 0 ⟨#[120]⟩)).put (some 84) (svT (atS 3))) W := fun W hb => by
    refine wpAnyH_ready (rs := [3, 7]) (by kernel_rfl) (by simp) ?_
    refine AllReadyH.call (d := 86) (f := 12) (args := #[vv k n ao m c, svT (atS 3), opv none 0 0 4 ⟨#[107]⟩ 6 0 ⟨#[120]⟩]) (OP := Op.call { callee := Callee.value (Operand.func 12), args := #[Operand.tmp 83, Operand.tmp 84, Operand.tmp 85], argTypes := #[30, 46, 50] }) (T := 32) rfl rfl rfl rfl (by rfl) (exec_call3 rfl (ev1 _) (ev3 _) (ev2 _)) ?_ ?_
    · refine (c2 W hb).mono ?_
      rintro e w' ⟨a', c', rfl, hn, b'⟩
      have hb' := hb.trans (b'.mono hb.size)
      exact ⟨_, rfl, hSb _ hb', h2n a' c' w' hb' (hn.weak hb.size)⟩
    · refine AllReadyH.turn (d := 19) (OP := Op.alloc 30) (T := 0) (v := .pointer (some ⟨W.heap.size, 0, none⟩)) (w' := W.alloc (.cells #[.int .i64 0, .int .i64 0, .slice none 0 0] 30)) rfl rfl rfl rfl (by rfl) (exec_alloc9 W) (hSb _ (hb.trans ((za W).mono hb.size))) ?_ AllReadyH.nil
      exact h1y W.heap.size _ (hb.trans ((za W).mono hb.size)) hb.size (heap_alloc_new W _)
  have h0y : ∀ B W, Below w.heap.size w W → w.heap.size ≤ B → W.heap[B]? = some (.cells #[.int .i64 0, .int .i64 0, .slice none 0 0] 30) → wpAnyH Tryd.prog .any ops_r10 Q (fun W => W.heap[Bv]? = some (.cells #[.int .i64 k, .int .i64 n, .slice ao m c] 30 (0, 0))) 7 #[true, false, true, false, false, false, false, true, false, false] (((a.put (some 83) (vv k n ao m c)).put (some 85) (opv none 0 0 4 ⟨#[107]⟩ 6 0 ⟨#[120]⟩)).put (some 19) (.pointer (some ⟨B, 0, none⟩))) W := fun B W hb hB hz => by
    refine wpAnyH_ready (rs := [1]) (by kernel_rfl) (by simp) ?_
    refine AllReadyH.call (d := 84) (f := 13) (args := #[.int .i64 3]) (OP := Op.call { callee := Callee.value (Operand.func 13), args := #[Operand.const (Value.int IntKind.i64 3)], argTypes := #[2] }) (T := 46) rfl rfl rfl rfl (by rfl) (by simp [execOp, resolve, invoke, go_sem, Act.eval]) ?_ AllReadyH.nil
    refine (c1 W).mono ?_
    rintro e w' ⟨rfl, b'⟩
    have hb' := hb.trans (b'.mono hb.size)
    have hBW := (Array.getElem?_eq_some_iff.1 hz).1
    refine ⟨_, rfl, hSb _ hb', ?_⟩
    rw [put_comm (show 19 ≠ 84 by decide)]
    exact h1y B w' hb' hB ((b'.block _ hBW).trans hz)
  refine wpAnyH_ready (rs := [1, 7]) (by kernel_rfl) (by simp) ?_
  refine AllReadyH.call (d := 84) (f := 13) (args := #[.int .i64 3]) (OP := Op.call { callee := Callee.value (Operand.func 13), args := #[Operand.const (Value.int IntKind.i64 3)], argTypes := #[2] }) (T := 46) rfl rfl rfl rfl (by rfl) (by simp [execOp, resolve, invoke, go_sem, Act.eval]) ?_ ?_
  · refine (c1 _).mono ?_
    rintro e w' ⟨rfl, b'⟩
    have hb' := hd.trans (b'.mono hd.size)
    exact ⟨_, rfl, hSb _ hb', h1n w' hb'⟩
  · refine AllReadyH.turn (d := 19) (OP := Op.alloc 30) (T := 0) (v := .pointer (some ⟨w.drew.heap.size, 0, none⟩)) (w' := w.drew.alloc (.cells #[.int .i64 0, .int .i64 0, .slice none 0 0] 30)) rfl rfl rfl rfl (by rfl) (exec_alloc9 _) (hSb _ (hd.trans ((za _).mono hd.size))) ?_ AllReadyH.nil
    exact h0y w.drew.heap.size _ (hd.trans ((za _).mono hd.size)) hd.size (heap_alloc_new _ _)
end Go.Proofs.YtkdgageljgfgoaaDoor
