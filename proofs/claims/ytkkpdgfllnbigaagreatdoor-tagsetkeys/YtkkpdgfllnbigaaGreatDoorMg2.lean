/-
  MOVES that any seat can take: appends and where they lay, moves in a region that draws its order (within a round of a range over a function too), functions that hold such a range and their marks, blocks of a few cells, what is handed back out of a block. 48 stands for the type of slices of bytes. It names no function of the program.
  NODES IN MEMORY: what it is that a tree lies in a world; what the program's functions on one node answer; a new node.
  NODES PUT TOGETHER: between, turnedRight, turnedLeft, settled, join, joining, as the program has them.
-/
import Derived.Test.YtkkpdgfllnbigaaGreatDoorMg1
import Derived.WalkMore
import Derived.RangeFuncNested
import Derived.RangeFuncBound
import Derived.RangeFuncCalls
import Derived.RangeFuncLeaves
import Derived.Shelf.Abstract
import Derived.OwnWalkIn
import Derived.TacticsInMore
import Derived.LoopNIn
import Derived.LoopIn
import Derived.OrdersIn
import Derived.OwnWalk
import Derived.Deep.CutRange
import Derived.ProofKit
import Derived.OpenShut
import Derived.Deep.QuietTactic
import Derived.BigQuiet
import Derived.Sort.Grow
namespace Go.Proofs.YtkkpdgfllnbigaaGreatDoor
open Go.RowKit Go.Shelf
set_option linter.unusedSimpArgs false

theorem _root_.Go.Proofs.Tryz.info5 : (Tryz.prog.info? 5).map (fun i => (i.zero, i.size, i.bytes)) = some (some (.int .u8 0), 1, 1) := by kernel_rfl

theorem hide {p : Prop} (h : p) : Hid p := h

theorem U8.append {a b : List Int} (ha : U8 a) (hb : U8 b) : U8 (a ++ b) := fun y hy => by
  simp at hy
  rcases hy with h | h
  · exact ha y h
  · exact hb y h

theorem U8.nil : U8 [] := fun _ h => by cases h

/-- Where an append lays what it answers: where the row lay, or in a new block. -/
def Where (w : World) (v v' : Value) : Prop := ∀ k, v'.ownBlock = some k → v.ownBlock = some k ∨ w.heap.size ≤ k

theorem append_where {P : Program} (w : World) (t ty e : TypeId) (i : TypeInfo) (z : Value) (size bytes : Nat) (ht : P.underlying t = some (.slice e)) (hi : P.info? e = some i) (hz : i.zero = some z)
    (hsize : i.size = size) (hby : i.bytes = bytes) (hzs : z.cells.size = size) (hsz : 0 < size)
    (v : Value) (n : Nat) (xs : List Value) (hown : w.ownsRow 0 e size v n xs)
    (a : Addr) (m c : Nat) (news : List Value) (hl : news.length = m * size) (hnews : ∀ j u, news[j]? = some u → w.cell? (a.add j) = some u) (h1 : ∀ u ∈ news, u.oneCell' = true)
    (h63 : n + m ≤ maxLen) (hbytes : (n + m) * bytes ≤ 140737488355328) :
    ∃ v' w', (Builtin.append_ #[t, t] ty #[v, .slice (some a) m c]).run P w = .ok v' w' ∧ w'.ownsRow 0 e size v' (n + m) (xs ++ news) ∧ w.grownBy w' v.ownBlock ∧ Where w v v' := by
  obtain ⟨v', w', hr, h2, h3, _⟩ := run_append_own (P := P) w 0 t ty e i z size bytes ht hi hz hsize hby hzs hsz v n xs hown a m c news hl hnews h1 h63 hbytes (Nat.zero_le _)
  refine ⟨v', w', hr, h2, h3, ?_⟩
  intro k hk
  rcases hown.2 with ⟨rfl, rfl⟩ | ⟨g, cap, cur, rfl, hbg, hg, hnc, hcm, hcs, htake⟩
  · have hx : xs = [] := List.eq_nil_of_length_eq_zero (by simpa using hown.1)
    subst hx
    obtain ⟨v2, w2, hr2, k2, _, _⟩ := run_append_own (P := P) w w.heap.size t ty e i z size bytes ht hi hz hsize hby hzs hsz (.slice none 0 0) 0 [] (World.ownsRow_nil _ _ _ _) a m c news hl hnews h1 h63 hbytes (Nat.le_refl _)
    rw [hr] at hr2
    cases hr2
    exact .inr (World.ownsRow.lt k2 k hk).1
  · subst hsize
    subst hby
    by_cases hroom : n + m ≤ cap
    · have hfit : n * i.size + news.length ≤ cur.size := by rw [hl, hcs, ← Nat.add_mul]; exact Nat.mul_le_mul_right _ hroom
      have hr2 := run_append_room (P := P) w t ty e i ht hi g n cap cur hg a m c news hl hnews h1 hroom hfit
      rw [hr] at hr2
      cases hr2
      exact .inl hk
    · have holds : ∀ j u, xs[j]? = some u → w.cell? ((⟨g, 0, none⟩ : Addr).add j) = some u := hown.cells (g := g) rfl
      have hr2 := run_append_grow (P := P) w t ty e i z ht hi hz ⟨g, 0, none⟩ n cap xs hown.1 holds a m c news hl hnews (by omega) (by simp only [maxLen] at h63; omega) (growslice_fits (by omega) hbytes)
      rw [hr] at hr2
      cases hr2
      simp [Value.ownBlock] at hk
      exact .inr (by omega)

theorem Own.form {e : TypeId} {w : World} {B : Nat} {v : Value} {l : List Int} (h : Own e w B v l) : ∃ ao cap, v = .slice ao l.length cap ∧ (ao = none → cap = 0) := by
  obtain ⟨ao, cap, rfl, _, _⟩ := h.shape
  refine ⟨ao, cap, rfl, fun hn => ?_⟩
  subst hn
  rcases h.2 with ⟨h1, _⟩ | ⟨g, c, cur, h1, _⟩
  · simp at h1; exact h1.2
  · simp at h1

/-- An operation in a region that draws its order, that comes up alone and turns the world. -/
theorem turn_op {P : Program} {md : Region.Mode} {ops : Array Oper} {Q : Exit → Act → World → Prop} {S : World → Prop} {i : Nat} {oi : Oper} {d : Tmp} {OP : Op} {T : TypeId} {v : Value} {fuel : Nat} {listed : Array Bool} {a : Act} {w w' : World} (hi : ops[i]? = some oi) (hd : oi.dst = some d) (ho : oi.op = OP) (ht : oi.type = T)
    (hr : Region.ready md ops listed = [i]) (hw : Region.wanted oi (yielded ops a.tmps) = true)
    (hy : (execOp a.eval { dst := none, op := OP, type := T, pos := "", after := #[], guard := none }).run P w = .ok (.value v) w') (hS : S w')
    (h : wpAnyH P md ops Q S fuel (listed.setIfInBounds i true) (a.put (some d) v) w') : wpAnyH P md ops Q S (fuel + 1) listed a w := by
  refine wpAnyH_ready hr (by simp) (AllReadyH.cons hi (fun K hK => ?_) AllReadyH.nil)
  rw [if_pos hw]
  unfold Oper.wp
  rw [exec_same a.eval oi ho ht, hy]
  show K (a.put oi.dst v) w'
  rw [hd]
  exact hK.out _ _ hS (fun _ => h)

theorem exec_append {P : Program} {ev : Operand → Value} {s x : Operand} {t T : TypeId} {v u v' : Value} {w w' : World} (hs : ev s = v) (hx : ev x = u) (hr : (Builtin.append_ #[t, t] T #[v, u]).run P w = .ok v' w') :
    (execOp ev { dst := none, op := .call { callee := .builtin .append, args := #[s, x], argTypes := #[t, t] }, type := T, pos := "", after := #[], guard := none }).run P w = .ok (.value v') w' := by
  simp [execOp, resolve, invoke, builtin, hs, hx, hr, Result.andThen]

theorem below_drew (w : World) (n : Nat) : Below w.heap.size w (w.drewN n) := ⟨rfl, rfl, rfl, Nat.le_refl _, fun _ _ => rfl⟩

theorem row_form {w : World} {B e s n : Nat} {v : Value} {xs : List Value} (h : w.ownsRow B e s v n xs) : ∃ ao c, v = .slice ao n c ∧ (∀ a, ao = some a → ∃ g, a = ⟨g, 0, none⟩) ∧ (ao = none → c = 0) := by
  rcases h.2 with ⟨h1, h2⟩ | ⟨g, cp, _, h1, _⟩
  · subst h2; exact ⟨none, 0, h1, by simp, by simp⟩
  · exact ⟨_, cp, h1, by intro a ha; cases ha; exact ⟨g, rfl⟩, by simp⟩

/-- The cells of a block of three. -/
theorem blk3 {w : World} {R : Nat} {t : TypeId} {x y z : Value} (h : w.heap[R]? = some (.cells #[x, y, z] t (0, 0))) : w.cell? ⟨R, 0, none⟩ = some x ∧ w.cell? ⟨R, 1, none⟩ = some y ∧ w.cell? ⟨R, 2, none⟩ = some z ∧ w.frozen? ⟨R, 0, none⟩ = false ∧ w.frozen? ⟨R, 1, none⟩ = false ∧ w.frozen? ⟨R, 2, none⟩ = false := by
  refine ⟨?_, ?_, ?_, frozen_of_row w R 0 _ t h, frozen_of_row w R 1 _ t h, frozen_of_row w R 2 _ t h⟩
  · rw [cell_of_row w R 0 _ t (0, 0) h]; rfl
  · rw [cell_of_row w R 1 _ t (0, 0) h]; rfl
  · rw [cell_of_row w R 2 _ t (0, 0) h]; rfl

theorem new2 (w : World) (o o' : Obj) : ((w.alloc o).alloc o').heap[w.heap.size]? = some o ∧ ((w.alloc o).alloc o').heap[w.heap.size + 1]? = some o' := by
  refine ⟨?_, ?_⟩
  · exact (World.grownBy_alloc (w.alloc o) o' none).block _ (by simp) (by simp) |>.trans (heap_alloc_new w o)
  · have := heap_alloc_new (w.alloc o) o'
    simpa using this

/-- A struct or an array that is handed back out of its block. -/
theorem ret_row {P : Program} {fn : Func} {p : Tmp} {ty : TypeId} (b : Nat) (cs : List Value) {R : Ending → World → Prop} {a : Act} {w : World} (h : fn.results = #[.cell p ty]) (hp : a.tmps.getD p undef = .pointer (some ⟨b, 0, none⟩))
    {d : TypeDesc} (hu : P.underlying ty = some d) (hd : d.isRow = true) (hi : (P.info? ty).map (·.size) = some cs.length) {t : TypeId} {fr : Nat × Nat} (hc : w.heap[b]? = some (.cells cs.toArray t fr)) (hdef : a.defers = [])
    (hR : R (.returned (.agg cs.toArray)) w) : bodyPost P fn R .ret a w := by
  refine bodyPost_ret (v := .agg cs.toArray) ?_ hdef hR
  rw [results_cell h, hp]
  have := run_loadVar_mid (P := P) w b 0 ty cs _ (fun j v hv => by rw [cell_of_row w b (0 + j) cs.toArray t fr hc, Nat.zero_add]; simpa using hv) hu hd hi
  simp [asAddr, Result.andThen, this]

/-- A struct out of its block, and a number beside it, are handed back. -/
theorem ret_row_tmp {P : Program} {fn : Func} {p q : Tmp} {ty : TypeId} (b : Nat) (cs : List Value) {R : Ending → World → Prop} {a : Act} {w : World} (h : fn.results = #[.cell p ty, .tmp q]) (hp : a.tmps.getD p undef = .pointer (some ⟨b, 0, none⟩)) {v : Value} (hq : a.tmps.getD q undef = v)
    {d : TypeDesc} (hu : P.underlying ty = some d) (hd : d.isRow = true) (hi : (P.info? ty).map (·.size) = some cs.length) {t : TypeId} {fr : Nat × Nat} (hc : w.heap[b]? = some (.cells cs.toArray t fr)) (hdef : a.defers = [])
    (hR : R (.returned (.tuple #[.agg cs.toArray, v])) w) : bodyPost P fn R .ret a w := by
  refine bodyPost_ret (v := .tuple #[.agg cs.toArray, v]) ?_ hdef hR
  have := run_loadVar_mid (P := P) w b 0 ty cs _ (fun j v hv => by rw [cell_of_row w b (0 + j) cs.toArray t fr hc, Nat.zero_add]; simpa using hv) hu hd hi
  have hp' : a.tmps[p]?.getD undef = .pointer (some ⟨b, 0, none⟩) := by simpa using hp
  have hq' : a.tmps[q]?.getD undef = v := by simpa using hq
  simp [results, h, hp', hq', asAddr, Sem.run_bind, Result.andThen, this]

/-- A call and an operation that turns the world come up together in a region that draws its order. -/
theorem call_turn_op {P : Program} {md : Region.Mode} {ops : Array Oper} {Q : Exit → Act → World → Prop} {S : World → Prop} {i j : Nat} {oi oj : Oper} {di dj : Tmp} {OPi OPj : Op} {Ti Tj : TypeId} {f : FuncId} {args : Array Value} {u : Value} {fuel : Nat} {listed : Array Bool} {a : Act} {w w' : World}
    (hi : ops[i]? = some oi) (hdi : oi.dst = some di) (hoi : oi.op = OPi) (hti : oi.type = Ti) (hj : ops[j]? = some oj) (hdj : oj.dst = some dj) (hoj : oj.op = OPj) (htj : oj.type = Tj)
    (hr : Region.ready md ops listed = [i, j]) (hwi : Region.wanted oi (yielded ops a.tmps) = true) (hwj : Region.wanted oj (yielded ops a.tmps) = true)
    (hyi : (execOp a.eval { dst := none, op := OPi, type := Ti, pos := "", after := #[], guard := none }).run P w = .ok (.enter f args) w)
    (hyj : (execOp a.eval { dst := none, op := OPj, type := Tj, pos := "", after := #[], guard := none }).run P w = .ok (.value u) w')
    (hS' : S w')
    (h1 : Calls P f args w fun e w1 => ∃ v, e = .returned v ∧ S w1 ∧ wpAnyH P md ops Q S fuel (listed.setIfInBounds i true) (a.put (some di) v) w1) (h2 : wpAnyH P md ops Q S fuel (listed.setIfInBounds j true) (a.put (some dj) u) w') : wpAnyH P md ops Q S (fuel + 1) listed a w := by
  refine wpAnyH_ready hr (by simp) (AllReadyH.cons hi (fun K hK => ?_) (AllReadyH.cons hj (fun K hK => ?_) AllReadyH.nil))
  · rw [if_pos hwi]
    unfold Oper.wp
    rw [exec_same a.eval oi hoi hti, hyi]
    refine Calls.mono h1 ?_
    rintro e w1 ⟨v, rfl, hS, hx⟩
    show K (a.put oi.dst v) w1
    rw [hdi]
    exact hK.out _ _ hS (fun _ => hx)
  · rw [if_pos hwj]
    unfold Oper.wp
    rw [exec_same a.eval oj hoj htj, hyj]
    show K (a.put oj.dst u) w'
    rw [hdj]
    exact hK.out _ _ hS' (fun _ => h2)

/-- A post that no panic meets. -/
def noPanic (Q : Exit → Act → World → Prop) : Exit → Act → World → Prop
  | .panic _, _, _ => False
  | e, a, w => Q e a w

theorem wp_noPanic {P : Program} {c : Code} {Q : Exit → Act → World → Prop} {a : Act} {w : World} (h : c.wp P (noPanic Q) a w) : c.wp P Q a w :=
  Code.wp_mono (fun e a w q => by cases e <;> first | exact q.elim | exact q) h

/-- A function that holds a range over a function. -/
theorem calls_marks {f : FuncId} {fn : Func} {c : Code} {args : Array Value} {w : World} {R : Ending → World → Prop} (hf : Tryz.prog.funcs[f]? = some fn) (hb : fn.body = some c)
    (h : c.wp Tryz.prog (noPanic (bodyPostM Fence.wide 6 Tryz.prog fn R)) { tmps := args ++ Array.replicate (fn.ntmps - args.size) undef, defers := [] } w) : Calls Tryz.prog f args w R :=
  (callsIn_wide (n := 6)).1 (callsIn_of_wp_marks hf hb trivial (wpIn_wide.2 (wp_noPanic h)) rfl)

/-- The mark of a range over a function is taken up at the return. -/
theorem leave_mark {fn : Func} {tmps : Array Value} {R : Ending → World → Prop} {ds : List Deferred} {W : World} {D0 : Nat} (hK : W.heap[D0]? = some (.deferred (some []))) (h : LeavesInM Fence.wide 6 Tryz.prog fn tmps R ds .returning (W.putObj D0 (.deferred none))) :
    LeavesInM Fence.wide 6 Tryz.prog fn tmps R ({ target := .collected D0, args := #[] } :: ds) .returning W := ⟨by simp, .inl ⟨_, _, rfl, run_takeDeferred hK, h⟩⟩

theorem leave_none {fn : Func} {tmps : Array Value} {R : Ending → World → Prop} {W : World} {v : Value} (hr : (results fn tmps).run Tryz.prog W = .ok v W) (h : R (.returned v) W) : LeavesInM Fence.wide 6 Tryz.prog fn tmps R [] .returning W := ⟨v, hr, h⟩

section
variable {P : Program} {ops : Array Oper} {Q : Exit → Act → World → Prop} {l n : Nat}
end

/-- How a round of the statement may be left. -/
def rpost (D : Nat → Prop) (I : Nat → World → Prop) (Ix : Code → World → Prop) (W : World) (k : Nat) : Exit → Act → World → Prop
  | .normal, _, W' => Only D W W' ∧ I k W'
  | .ret, _, W' => Only D W W' ∧ Ix .ret W'
  | .exit id, _, W' => Only D W W' ∧ Ix (.exit id) W'
  | .goto t, _, W' => Only D W W' ∧ Ix (.goto t) W'
  | .panic _, _, _ => False
  | .outgrown, _, _ => False

theorem only_putObj (W : World) (l : Nat) (o : Obj) : Only (fun j => j = l) W (W.putObj l o) :=
  ⟨rfl, rfl, rfl, by simp, fun k _ hk => World.putObj_heap_other hk⟩

end Go.Proofs.YtkkpdgfllnbigaaGreatDoor
namespace Go.Proofs.YtkkpdgfllnbigaaGreatDoor.Pm
open Go.RowKit Go.Shelf
set_option linter.unusedSimpArgs false

theorem drew_below (w : World) : Below w.heap.size w w.drew := (Below.refl _ w).drew
def T.ptr : T → Value
  | .nil => .pointer none
  | .node p _ _ _ _ => .pointer (some ⟨p, 0, none⟩)
/-- A tree lies in a world. -/
def In (w : World) : T → Prop
  | .nil => True
  | .node p k v l r => w.heap[p]? = some (.cells #[.string k, .string v, l.ptr, r.ptr, .int .i64 (((T.node p k v l r).h : Nat) : Int), .int .i64 (((T.node p k v l r).n : Nat) : Int)] 127 (0, 0)) ∧ In w l ∧ In w r
theorem In.below {w w' : World} (hb : Below w.heap.size w w') : ∀ {t : T}, In w t → In w' t
  | .nil, _ => trivial
  | .node p _ _ _ _, ⟨h1, h2, h3⟩ => ⟨(hb.block p (gI h1).1).trans h1, In.below hb h2, In.below hb h3⟩
theorem In.lt {w : World} {p k v l r} (h : In w (.node p k v l r)) : p < w.heap.size := (gI h.1).1
/-- What a node's cells hold. -/
structure Cells6 (w : World) (p : Nat) (k : ByteArray) (v : ByteArray) (lp rp : Value) (h n : Int) : Prop where
  c0 : w.cell? ⟨p, 0, none⟩ = some (.string k)
  c1 : w.cell? ⟨p, 1, none⟩ = some (.string v)
  c2 : w.cell? ⟨p, 2, none⟩ = some lp
  c3 : w.cell? ⟨p, 3, none⟩ = some rp
  c4 : w.cell? ⟨p, 4, none⟩ = some (.int .i64 h)
  c5 : w.cell? ⟨p, 5, none⟩ = some (.int .i64 n)
theorem In.cells {w : World} {p k v l r} (h : In w (.node p k v l r)) : Cells6 w p k v l.ptr r.ptr ((T.node p k v l r).h : Nat) ((T.node p k v l r).n : Nat) := by
  have := h.1
  exact ⟨by rw [cell_of_row _ _ 0 _ 127 (0, 0) this]; rfl, by rw [cell_of_row _ _ 1 _ 127 (0, 0) this]; rfl, by rw [cell_of_row _ _ 2 _ 127 (0, 0) this]; rfl, by rw [cell_of_row _ _ 3 _ 127 (0, 0) this]; rfl, by rw [cell_of_row _ _ 4 _ 127 (0, 0) this]; rfl, by rw [cell_of_row _ _ 5 _ 127 (0, 0) this]; rfl⟩
theorem T.h_le_n : ∀ t : T, t.h ≤ t.n
  | .nil => Nat.le_refl _
  | .node _ _ _ l r => by have := T.h_le_n l; have := T.h_le_n r; simp only [T.h, T.n]; omega
theorem T.ptr_shape (t : T) : ∃ a, t.ptr = .pointer a := by cases t <;> exact ⟨_, rfl⟩

theorem height_any (t : T) (w : World) (h : In w t) : Calls Tryz.prog 75 #[t.ptr] w fun e w' => e = .returned (.int .i64 (t.h : Nat)) ∧ w' = w := by
  cases t with
  | nil =>
    go_enter Tryz.func75, Tryz.ntmps75
    simp only [T.ptr]
    go_wp2
    go_ret
    exact ⟨rfl, rfl⟩
  | node p k v l r =>
    have hc := h.cells.c4
    generalize ((T.node p k v l r).h : Nat) = H at hc ⊢
    go_enter Tryz.func75, Tryz.ntmps75
    simp only [T.ptr]
    go_wp2
    go_ret
    exact ⟨rfl, rfl⟩
theorem len_any (t : T) (w : World) (h : In w t) : Calls Tryz.prog 76 #[t.ptr] w fun e w' => e = .returned (.int .i64 (t.n : Nat)) ∧ w' = w := by
  cases t with
  | nil =>
    go_enter Tryz.func76, Tryz.ntmps76
    simp only [T.ptr]
    go_wp2
    go_ret
    exact ⟨rfl, rfl⟩
  | node p k v l r =>
    have hc := h.cells.c5
    generalize ((T.node p k v l r).n : Nat) = H at hc ⊢
    go_enter Tryz.func76, Tryz.ntmps76
    simp only [T.ptr]
    go_wp2
    go_ret
    exact ⟨rfl, rfl⟩
theorem In.left {w : World} {t : T} (h : In w t) : In w t.left := by cases t with | nil => trivial | node => exact h.2.1
theorem In.right {w : World} {t : T} (h : In w t) : In w t.right := by cases t with | nil => trivial | node => exact h.2.2
theorem value_any (t : T) (w : World) (h : In w t) : Calls Tryz.prog 51 #[t.ptr] w fun e w' => e = .returned (.string t.val) ∧ w' = w := by
  cases t with
  | nil =>
    go_enter Tryz.func51, Tryz.ntmps51
    simp only [T.ptr]
    go_wp2
    go_ret
    exact ⟨rfl, rfl⟩
  | node p k v l r =>
    have hc := h.cells.c1
    go_enter Tryz.func51, Tryz.ntmps51
    simp only [T.ptr]
    go_wp2
    go_ret
    exact ⟨rfl, rfl⟩
theorem left_any (t : T) (w : World) (h : In w t) : Calls Tryz.prog 85 #[t.ptr] w fun e w' => e = .returned t.left.ptr ∧ w' = w := by
  cases t with
  | nil =>
    go_enter Tryz.func85, Tryz.ntmps85
    simp only [T.ptr]
    go_wp2
    go_ret
    exact ⟨rfl, rfl⟩
  | node p k v l r =>
    have hc := h.cells.c2
    simp only [T.left]
    obtain ⟨a, ha⟩ := l.ptr_shape
    rw [ha] at hc ⊢
    go_enter Tryz.func85, Tryz.ntmps85
    simp only [T.ptr]
    go_wp2
    go_ret
    exact ⟨rfl, rfl⟩
/-- What a call that makes a tree leaves. -/
def Gives (w : World) (e : Ending) (w' : World) (t : T) : Prop := e = .returned t.ptr ∧ In w' t ∧ Below w.heap.size w w'

theorem made_any (l r : T) (k : ByteArray) (v : ByteArray) (w : World) (hl : In w l) (hr : In w r) (hn : l.n + r.n ≤ 1000000) :
    Calls Tryz.prog 48 #[l.ptr, .string k, .string v, r.ptr] w fun e w' => Gives w e w' (.node w.heap.size k v l r) := by
  have h1 := height_any l w hl
  have h2 := height_any r w hr
  have h3 := len_any l w hl
  have h4 := len_any r w hr
  have hG : Gives w (.returned (.pointer (some ⟨w.heap.size, 0, none⟩))) (w.alloc (.cells #[.string k, .string v, l.ptr, r.ptr, .int .i64 (1 + max (l.h : Int) (r.h : Int)), .int .i64 (1 + (l.n : Int) + (r.n : Int))] 127)) (.node w.heap.size k v l r) := by
    have hb : Below w.heap.size w (w.alloc (.cells #[.string k, .string v, l.ptr, r.ptr, .int .i64 (1 + max (l.h : Int) (r.h : Int)), .int .i64 (1 + (l.n : Int) + (r.n : Int))] 127)) := (Below.refl _ w).alloc (Nat.le_refl _) _
    refine ⟨rfl, ⟨?_, In.below hb hl, In.below hb hr⟩, hb⟩
    rw [heap_alloc_new]
    have e1 : (1 + max (l.h : Int) (r.h : Int)) = (((T.node w.heap.size k v l r).h : Nat) : Int) := by simp only [T.h]; omega
    have e2 : (1 + (l.n : Int) + (r.n : Int)) = (((T.node w.heap.size k v l r).n : Nat) : Int) := by simp only [T.n]; omega
    rw [e1, e2]
  have b1 := l.h_le_n
  have b2 := r.h_le_n
  have HG := hide hG
  clear hG
  obtain ⟨a, ha⟩ := l.ptr_shape
  obtain ⟨b, hb⟩ := r.ptr_shape
  rw [ha] at h1 h3 HG ⊢
  rw [hb] at h2 h4 HG ⊢
  generalize l.h = L at *
  generalize r.h = R at *
  generalize l.n = N at *
  generalize r.n = M at *
  clear hl hr ha hb
  have w1 : IntKind.i64.wrap (1 + (N : Int)) = 1 + (N : Int) := by rw [IntKind.wrap_i64]; omega
  go_enter Tryz.func48, Tryz.ntmps48
  go_wp2_with (first
    | (go_at_call 75; refine h1.mono ?_; rintro e w' ⟨rfl, rfl⟩; clear h1)
    | (go_at_call 75; refine h2.mono ?_; rintro e w' ⟨rfl, rfl⟩)
    | (go_at_call 76; refine h3.mono ?_; rintro e w' ⟨rfl, rfl⟩; clear h3)
    | (go_at_call 76; refine h4.mono ?_; rintro e w' ⟨rfl, rfl⟩))
  go_ret
  exact HG.out
end Go.Proofs.YtkkpdgfllnbigaaGreatDoor.Pm
namespace Go.Proofs.YtkkpdgfllnbigaaGreatDoor.Pm
open Go.RowKit Go.Shelf
set_option linter.unusedSimpArgs false

theorem Gives.grow {w w1 : World} {e : Ending} {w' : World} {t : T} (h : Gives w1 e w' t) (hb : Below w.heap.size w w1) : Gives w e w' t := ⟨h.1, h.2.1, hb.trans (h.2.2.mono hb.size)⟩
theorem cell_stays {w w' : World} {a : Addr} {x : Value} (h : w.cell? a = some x) (hb : Below w.heap.size w w') : w'.cell? a = some x := by
  rw [hb.cell (World.block_lt_of_cell? w _ h)]; exact h
theorem keep2 {w w' : World} {a b : Addr} {x y : Value} (h : w.cell? a = some x ∧ w.cell? b = some y) (hb : Below w.heap.size w w') : w'.cell? a = some x ∧ w'.cell? b = some y := ⟨cell_stays h.1 hb, cell_stays h.2 hb⟩
theorem keep3 {w w' : World} {a b c : Addr} {x y z : Value} (h : w.cell? a = some x ∧ w.cell? b = some y ∧ w.cell? c = some z) (hb : Below w.heap.size w w') : w'.cell? a = some x ∧ w'.cell? b = some y ∧ w'.cell? c = some z := ⟨cell_stays h.1 hb, keep2 h.2 hb⟩
theorem In.drew {w : World} {t : T} (h : In w t) : In w.drew t := In.below (Below.refl _ w).drew h

set_option maxHeartbeats 1000000 in
theorem between_any {p : Nat} {k : ByteArray} {v : ByteArray} {l0 r0 : T} (l r : T) (w : World) (h : In w (.node p k v l0 r0)) (hl : In w l) (hr : In w r) (hn : l.n + r.n ≤ 1000000) :
    Calls Tryz.prog 125 #[.pointer (some ⟨p, 0, none⟩), l.ptr, r.ptr] w fun e w' => Gives w e w' (.node w.heap.size k v l r) := by
  obtain ⟨c0, c1, c2, c3, c4, c5⟩ := h.cells
  have hm := made_any l r k v w.drew hl.drew hr.drew hn
  have hG : ∀ e w', Gives w.drew e w' (.node w.drew.heap.size k v l r) → Hid (Gives w e w' (.node w.heap.size k v l r)) ∧ e = .returned (.pointer (some ⟨w.heap.size, 0, none⟩)) ∧ Below w.heap.size w w' := fun e w' h => ⟨h.grow (Below.refl _ w).drew, h.1, (h.grow (Below.refl _ w).drew).2.2⟩
  obtain ⟨a, ha⟩ := l.ptr_shape
  obtain ⟨b, hb⟩ := r.ptr_shape
  rw [ha] at hm ⊢
  rw [hb] at hm ⊢
  have hS : w.cell? ⟨p, 0, none⟩ = some (.string k) ∧ w.cell? ⟨p, 1, none⟩ = some (.string v) := ⟨c0, c1⟩
  clear c0 c1 c2 c3 c4 c5 h hl hr ha hb
  go_enter Tryz.func125, Tryz.ntmps125
  go_wp2_with fail
  go_region_held3 (fun w' => w'.cell? ⟨p, 0, none⟩ = some (.string k) ∧ w'.cell? ⟨p, 1, none⟩ = some (.string v)) (first | exact hS | exact keep2 hS (by assumption))
    (first | (go_at_call 48; refine hm.mono ?_; intro e w' hg; obtain ⟨HG, rfl, hb2⟩ := hG e w' hg))
  go_wp2
  go_ret
  exact HG.out

set_option maxHeartbeats 2000000 in
set_option maxRecDepth 100000 in
theorem turnedRight_any {pn : Nat} {k : ByteArray} {v : ByteArray} {nl nr : T} (lp : Nat) (lk : ByteArray) (lv : ByteArray) (ll i r : T) (w : World) (hN : In w (.node pn k v nl nr)) (hH : In w (T.node lp lk lv ll i)) (hx : In w r) (hh : r.h + 1 < (T.node lp lk lv ll i).h) (hn : (T.node lp lk lv ll i).n + r.n ≤ 900000) :
    Calls Tryz.prog 123 #[.pointer (some ⟨pn, 0, none⟩), .pointer (some ⟨lp, 0, none⟩), r.ptr] w fun e w' => ∃ t, Gives w e w' t ∧ Settled w.heap.size k v (T.node lp lk lv ll i) r t := by
  have q2 := hH.cells.c2
  have q3 := hH.cells.c3
  obtain ⟨ax, hax⟩ := r.ptr_shape
  obtain ⟨ao, hao⟩ := ll.ptr_shape
  have e1 := fun n => height_any i (w.drewN n) (In.below (below_drew w n) hH.2.2)
  have e2 := fun n => height_any ll (w.drewN n) (In.below (below_drew w n) hH.2.1)
  have toB : ∀ {n : Nat} {W : World}, Below (w.drewN n).heap.size (w.drewN n) W → Below w.heap.size w W := fun h => (below_drew w _).trans h
  by_cases hc : ll.h < i.h
  · obtain ⟨ip, ik, iv, il, ir, rfl⟩ := T.h_pos (t := i) (by omega)
    have d2 := hH.2.2.cells.c2
    have d3 := hH.2.2.cells.c3
    have b1 : ∀ W, Below w.heap.size w W → Calls Tryz.prog 125 #[.pointer (some ⟨lp, 0, none⟩), ll.ptr, il.ptr] W fun e w' => Gives W e w' (.node W.heap.size lk lv ll il) := fun W hW => between_any ll il W (In.below hW hH) (In.below hW hH.2.1) (In.below hW hH.2.2.2.1) (by simp only [T.n] at hn; omega)
    have b2 : ∀ W, Below w.heap.size w W → Calls Tryz.prog 125 #[.pointer (some ⟨pn, 0, none⟩), ir.ptr, r.ptr] W fun e w' => Gives W e w' (.node W.heap.size k v ir r) := fun W hW => between_any ir r W (In.below hW hN) (In.below hW hH.2.2.2.2) (In.below hW hx) (by simp only [T.n] at hn; omega)
    have b3 : ∀ W A C, Below w.heap.size w W → In W (T.node A lk lv ll il) → In W (T.node C k v ir r) → Calls Tryz.prog 125 #[.pointer (some ⟨ip, 0, none⟩), .pointer (some ⟨A, 0, none⟩), .pointer (some ⟨C, 0, none⟩)] W fun e w' => Gives W e w' (.node W.heap.size ik iv (T.node A lk lv ll il) (T.node C k v ir r)) := fun W A C hW h1 h2 => between_any (T.node A lk lv ll il) (T.node C k v ir r) W (In.below hW hH.2.2) h1 h2 (by simp only [T.n] at hn ⊢; omega)
    have hfin : ∀ A C D, w.heap.size ≤ A → w.heap.size ≤ C → w.heap.size ≤ D → Settled w.heap.size k v (T.node lp lk lv ll (.node ip ik iv il ir)) r (T.node D ik iv (T.node A lk lv ll il) (T.node C k v ir r)) := fun A C D hA hC hD => .rightIn (ip := ip) hh hc hD hA hC
    obtain ⟨il', hil⟩ := il.ptr_shape
    obtain ⟨ir', hir⟩ := ir.ptr_shape
    have ei : (T.node ip ik iv il ir).ptr = .pointer (some ⟨ip, 0, none⟩) := rfl
    rw [ei] at q3 e1
    rw [hao] at q2 e2
    rw [hil] at d2
    rw [hir] at d3
    rw [hax]
    simp only [hao, hil] at b1
    simp only [hax, hir] at b2
    have hcz : decide ((((ll.h : Nat)) : Int) < (((T.node ip ik iv il ir).h : Nat) : Int)) = true := by simp only [decide_eq_true_eq]; exact_mod_cast hc
    have hcz' : ((((ll.h : Nat)) : Int) < (((T.node ip ik iv il ir).h : Nat) : Int)) := by exact_mod_cast hc
    have HF := hide hfin
    have tk1 : True := trivial
    have tk2 : True := trivial
    have hS : w.cell? ⟨lp, 2, none⟩ = some (.pointer ao) ∧ w.cell? ⟨ip, 2, none⟩ = some (.pointer il') ∧ w.cell? ⟨ip, 3, none⟩ = some (.pointer ir') := ⟨q2, d2, d3⟩
    clear hN hH hx hh hn hfin hc hax hao hil hir ei
    generalize ll.h = X at e2 hcz hcz'
    generalize (T.node ip ik iv il ir).h = Y at e1 hcz hcz'
    go_enter Tryz.func123, Tryz.ntmps123
    go_wp2_with fail
    go_quiet (first | (go_at_call_of 75 ao; refine Calls.quiet_of_same (e2 _)) | (go_at_call 75; refine Calls.quiet_of_same (e1 _)))
    clear e1 e2
    go_wp2_with fail
    obtain ⟨w0, hw0⟩ : ∃ w0, w0 = w.drewN nq := ⟨_, rfl⟩
    rw [← hw0]
    have hB0 : Below w.heap.size w w0 := by rw [hw0]; exact below_drew w nq
    have hS0 := keep3 hS hB0
    clear hw0 toB q2 q3 d2 d3 hS hcz hcz'
    go_region_held3 (fun w' => w'.cell? ⟨lp, 2, none⟩ = some (.pointer ao) ∧ w'.cell? ⟨ip, 2, none⟩ = some (.pointer il') ∧ w'.cell? ⟨ip, 3, none⟩ = some (.pointer ir')) (first | exact hS0 | exact keep3 hS0 (by assumption) | exact keep3 (by assumption) (by assumption))
      (first
        | (go_at_call 125; clear tk1; refine (b1 _ hB0.drew).mono ?_; intro e w1 hg; have he := hg.1; have hb1 := hg.2.2; have HI1 := hide hg.2.1; clear hg; subst he; have hB1 := hB0.drew.trans (hb1.mono hB0.size))
        | (go_at_call 125; clear tk2; refine (b2 _ hB1).mono ?_; intro e w2 hg; have he := hg.1; have hb2 := hg.2.2; have HI2 := hide hg.2.1; clear hg; subst he; have hB2 := hB1.trans (hb2.mono hB1.size))
        | (go_at_call 125; refine (b3 _ _ _ hB2 (In.below hb2 HI1.out) HI2.out).mono ?_; intro e w3 hg; have he := hg.1; have hb3 := hg.2.2; have HI3 := hide hg.2.1; clear hg; subst he; have hB3 := hB2.trans (hb3.mono hB2.size)))
    go_wp2
    go_ret
    exact ⟨_, ⟨rfl, HI3.out, hB3⟩, HF.out _ _ _ hB0.size hB1.size hB2.size⟩
  · have b1 : ∀ W, Below w.heap.size w W → Calls Tryz.prog 125 #[.pointer (some ⟨pn, 0, none⟩), i.ptr, r.ptr] W fun e w' => Gives W e w' (.node W.heap.size k v i r) := fun W hW => between_any i r W (In.below hW hN) (In.below hW hH.2.2) (In.below hW hx) (by simp only [T.n] at hn; omega)
    have b2 : ∀ W A, Below w.heap.size w W → In W (T.node A k v i r) → Calls Tryz.prog 125 #[.pointer (some ⟨lp, 0, none⟩), ll.ptr, .pointer (some ⟨A, 0, none⟩)] W fun e w' => Gives W e w' (.node W.heap.size lk lv ll (.node A k v i r)) := fun W A hW h1 => between_any ll (.node A k v i r) W (In.below hW hH) (In.below hW hH.2.1) h1 (by simp only [T.n] at hn ⊢; omega)
    have hfin : ∀ A C, w.heap.size ≤ A → w.heap.size ≤ C → Settled w.heap.size k v (T.node lp lk lv ll i) r (T.node C lk lv ll (.node A k v i r)) := fun A C hA hC => .rightOut hh (by omega) hC hA
    obtain ⟨ai, hai⟩ := i.ptr_shape
    rw [hai] at q3 e1
    rw [hao] at q2 e2
    rw [hax]
    simp only [hax, hai] at b1
    simp only [hao] at b2
    have hcz : decide ((((ll.h : Nat)) : Int) < ((i.h : Nat) : Int)) = false := by simp only [decide_eq_false_iff_not]; intro h; exact hc (by exact_mod_cast h)
    have hcz' : ¬ ((((ll.h : Nat)) : Int) < ((i.h : Nat) : Int)) := by intro h; exact hc (by exact_mod_cast h)
    have HF := hide hfin
    have tk1 : True := trivial
    have hS : w.cell? ⟨lp, 2, none⟩ = some (.pointer ao) := q2
    clear hN hH hx hh hn hfin hc hax hao hai
    generalize ll.h = X at e2 hcz hcz'
    generalize i.h = Y at e1 hcz hcz'
    go_enter Tryz.func123, Tryz.ntmps123
    go_wp2_with fail
    go_quiet (first | (go_at_call_of 75 ao; refine Calls.quiet_of_same (e2 _)) | (go_at_call 75; refine Calls.quiet_of_same (e1 _)))
    clear e1 e2
    go_wp2_with fail
    obtain ⟨w0, hw0⟩ : ∃ w0, w0 = w.drewN nq := ⟨_, rfl⟩
    rw [← hw0]
    have hB0 : Below w.heap.size w w0 := by rw [hw0]; exact below_drew w nq
    have hS0 := cell_stays hS hB0
    clear hw0 toB q2 q3 hS hcz hcz'
    go_region_held3 (fun w' => w'.cell? ⟨lp, 2, none⟩ = some (.pointer ao)) (first | exact hS0 | exact cell_stays hS0 (by assumption) | exact cell_stays (by assumption) (by assumption))
      (first
        | (go_at_call 125; clear tk1; refine (b1 _ hB0.drew).mono ?_; intro e w1 hg; have he := hg.1; have hb1 := hg.2.2; have HI1 := hide hg.2.1; clear hg; subst he; have hB1 := hB0.drew.trans (hb1.mono hB0.size))
        | (go_at_call 125; refine (b2 _ _ hB1 HI1.out).mono ?_; intro e w2 hg; have he := hg.1; have hb2 := hg.2.2; have HI2 := hide hg.2.1; clear hg; subst he; have hB2 := hB1.trans (hb2.mono hB1.size)))
    go_wp2
    go_ret
    exact ⟨_, ⟨rfl, HI2.out, hB2⟩, HF.out _ _ hB0.size hB1.size⟩

set_option maxHeartbeats 2000000 in
set_option maxRecDepth 100000 in
theorem turnedLeft_any {pn : Nat} {k : ByteArray} {v : ByteArray} {nl nr : T} (rp : Nat) (rk : ByteArray) (rv : ByteArray) (rr i l : T) (w : World) (hN : In w (.node pn k v nl nr)) (hH : In w (T.node rp rk rv i rr)) (hx : In w l) (hh : l.h + 1 < (T.node rp rk rv i rr).h) (hn : (T.node rp rk rv i rr).n + l.n ≤ 900000) :
    Calls Tryz.prog 124 #[.pointer (some ⟨pn, 0, none⟩), l.ptr, .pointer (some ⟨rp, 0, none⟩)] w fun e w' => ∃ t, Gives w e w' t ∧ Settled w.heap.size k v l (T.node rp rk rv i rr) t := by
  have q3 := hH.cells.c3
  have q2 := hH.cells.c2
  obtain ⟨ax, hax⟩ := l.ptr_shape
  obtain ⟨ao, hao⟩ := rr.ptr_shape
  have e1 := fun n => height_any i (w.drewN n) (In.below (below_drew w n) hH.2.1)
  have e2 := fun n => height_any rr (w.drewN n) (In.below (below_drew w n) hH.2.2)
  have toB : ∀ {n : Nat} {W : World}, Below (w.drewN n).heap.size (w.drewN n) W → Below w.heap.size w W := fun h => (below_drew w _).trans h
  by_cases hc : rr.h < i.h
  · obtain ⟨ip, ik, iv, il, ir, rfl⟩ := T.h_pos (t := i) (by omega)
    have d2 := hH.2.1.cells.c2
    have d3 := hH.2.1.cells.c3
    have b1 : ∀ W, Below w.heap.size w W → Calls Tryz.prog 125 #[.pointer (some ⟨pn, 0, none⟩), l.ptr, il.ptr] W fun e w' => Gives W e w' (.node W.heap.size k v l il) := fun W hW => between_any l il W (In.below hW hN) (In.below hW hx) (In.below hW hH.2.1.2.1) (by simp only [T.n] at hn; omega)
    have b2 : ∀ W, Below w.heap.size w W → Calls Tryz.prog 125 #[.pointer (some ⟨rp, 0, none⟩), ir.ptr, rr.ptr] W fun e w' => Gives W e w' (.node W.heap.size rk rv ir rr) := fun W hW => between_any ir rr W (In.below hW hH) (In.below hW hH.2.1.2.2) (In.below hW hH.2.2) (by simp only [T.n] at hn; omega)
    have b3 : ∀ W A C, Below w.heap.size w W → In W (T.node A k v l il) → In W (T.node C rk rv ir rr) → Calls Tryz.prog 125 #[.pointer (some ⟨ip, 0, none⟩), .pointer (some ⟨A, 0, none⟩), .pointer (some ⟨C, 0, none⟩)] W fun e w' => Gives W e w' (.node W.heap.size ik iv (T.node A k v l il) (T.node C rk rv ir rr)) := fun W A C hW h1 h2 => between_any (T.node A k v l il) (T.node C rk rv ir rr) W (In.below hW hH.2.1) h1 h2 (by simp only [T.n] at hn ⊢; omega)
    have hfin : ∀ A C D, w.heap.size ≤ A → w.heap.size ≤ C → w.heap.size ≤ D → Settled w.heap.size k v l (T.node rp rk rv (.node ip ik iv il ir) rr) (T.node D ik iv (T.node A k v l il) (T.node C rk rv ir rr)) := fun A C D hA hC hD => .leftIn (ip := ip) hh hc hD hA hC
    obtain ⟨il', hil⟩ := il.ptr_shape
    obtain ⟨ir', hir⟩ := ir.ptr_shape
    have ei : (T.node ip ik iv il ir).ptr = .pointer (some ⟨ip, 0, none⟩) := rfl
    rw [ei] at q2 e1
    rw [hao] at q3 e2
    rw [hil] at d2
    rw [hir] at d3
    rw [hax]
    simp only [hax, hil] at b1
    simp only [hao, hir] at b2
    have hcz : decide ((((rr.h : Nat)) : Int) < (((T.node ip ik iv il ir).h : Nat) : Int)) = true := by simp only [decide_eq_true_eq]; exact_mod_cast hc
    have hcz' : ((((rr.h : Nat)) : Int) < (((T.node ip ik iv il ir).h : Nat) : Int)) := by exact_mod_cast hc
    have HF := hide hfin
    have tk1 : True := trivial
    have tk2 : True := trivial
    have hS : w.cell? ⟨rp, 3, none⟩ = some (.pointer ao) ∧ w.cell? ⟨ip, 2, none⟩ = some (.pointer il') ∧ w.cell? ⟨ip, 3, none⟩ = some (.pointer ir') := ⟨q3, d2, d3⟩
    clear hN hH hx hh hn hfin hc hax hao hil hir ei
    generalize rr.h = X at e2 hcz hcz'
    generalize (T.node ip ik iv il ir).h = Y at e1 hcz hcz'
    go_enter Tryz.func124, Tryz.ntmps124
    go_wp2_with fail
    go_quiet (first | (go_at_call_of 75 ao; refine Calls.quiet_of_same (e2 _)) | (go_at_call 75; refine Calls.quiet_of_same (e1 _)))
    clear e1 e2
    go_wp2_with fail
    obtain ⟨w0, hw0⟩ : ∃ w0, w0 = w.drewN nq := ⟨_, rfl⟩
    rw [← hw0]
    have hB0 : Below w.heap.size w w0 := by rw [hw0]; exact below_drew w nq
    have hS0 := keep3 hS hB0
    clear hw0 toB q3 q2 d2 d3 hS hcz hcz'
    go_region_held3 (fun w' => w'.cell? ⟨rp, 3, none⟩ = some (.pointer ao) ∧ w'.cell? ⟨ip, 2, none⟩ = some (.pointer il') ∧ w'.cell? ⟨ip, 3, none⟩ = some (.pointer ir')) (first | exact hS0 | exact keep3 hS0 (by assumption) | exact keep3 (by assumption) (by assumption))
      (first
        | (go_at_call 125; clear tk1; refine (b1 _ hB0.drew).mono ?_; intro e w1 hg; have he := hg.1; have hb1 := hg.2.2; have HI1 := hide hg.2.1; clear hg; subst he; have hB1 := hB0.drew.trans (hb1.mono hB0.size))
        | (go_at_call 125; clear tk2; refine (b2 _ hB1).mono ?_; intro e w2 hg; have he := hg.1; have hb2 := hg.2.2; have HI2 := hide hg.2.1; clear hg; subst he; have hB2 := hB1.trans (hb2.mono hB1.size))
        | (go_at_call 125; refine (b3 _ _ _ hB2 (In.below hb2 HI1.out) HI2.out).mono ?_; intro e w3 hg; have he := hg.1; have hb3 := hg.2.2; have HI3 := hide hg.2.1; clear hg; subst he; have hB3 := hB2.trans (hb3.mono hB2.size)))
    go_wp2
    go_ret
    exact ⟨_, ⟨rfl, HI3.out, hB3⟩, HF.out _ _ _ hB0.size hB1.size hB2.size⟩
  · have b1 : ∀ W, Below w.heap.size w W → Calls Tryz.prog 125 #[.pointer (some ⟨pn, 0, none⟩), l.ptr, i.ptr] W fun e w' => Gives W e w' (.node W.heap.size k v l i) := fun W hW => between_any l i W (In.below hW hN) (In.below hW hx) (In.below hW hH.2.1) (by simp only [T.n] at hn; omega)
    have b2 : ∀ W A, Below w.heap.size w W → In W (T.node A k v l i) → Calls Tryz.prog 125 #[.pointer (some ⟨rp, 0, none⟩), .pointer (some ⟨A, 0, none⟩), rr.ptr] W fun e w' => Gives W e w' (.node W.heap.size rk rv (.node A k v l i) rr) := fun W A hW h1 => between_any (.node A k v l i) rr W (In.below hW hH) h1 (In.below hW hH.2.2) (by simp only [T.n] at hn ⊢; omega)
    have hfin : ∀ A C, w.heap.size ≤ A → w.heap.size ≤ C → Settled w.heap.size k v l (T.node rp rk rv i rr) (T.node C rk rv (.node A k v l i) rr) := fun A C hA hC => .leftOut hh (by omega) hC hA
    obtain ⟨ai, hai⟩ := i.ptr_shape
    rw [hai] at q2 e1
    rw [hao] at q3 e2
    rw [hax]
    simp only [hax, hai] at b1
    simp only [hao] at b2
    have hcz : decide ((((rr.h : Nat)) : Int) < ((i.h : Nat) : Int)) = false := by simp only [decide_eq_false_iff_not]; intro h; exact hc (by exact_mod_cast h)
    have hcz' : ¬ ((((rr.h : Nat)) : Int) < ((i.h : Nat) : Int)) := by intro h; exact hc (by exact_mod_cast h)
    have HF := hide hfin
    have tk1 : True := trivial
    have hS : w.cell? ⟨rp, 3, none⟩ = some (.pointer ao) := q3
    clear hN hH hx hh hn hfin hc hax hao hai
    generalize rr.h = X at e2 hcz hcz'
    generalize i.h = Y at e1 hcz hcz'
    go_enter Tryz.func124, Tryz.ntmps124
    go_wp2_with fail
    go_quiet (first | (go_at_call_of 75 ao; refine Calls.quiet_of_same (e2 _)) | (go_at_call 75; refine Calls.quiet_of_same (e1 _)))
    clear e1 e2
    go_wp2_with fail
    obtain ⟨w0, hw0⟩ : ∃ w0, w0 = w.drewN nq := ⟨_, rfl⟩
    rw [← hw0]
    have hB0 : Below w.heap.size w w0 := by rw [hw0]; exact below_drew w nq
    have hS0 := cell_stays hS hB0
    clear hw0 toB q3 q2 hS hcz hcz'
    go_region_held3 (fun w' => w'.cell? ⟨rp, 3, none⟩ = some (.pointer ao)) (first | exact hS0 | exact cell_stays hS0 (by assumption) | exact cell_stays (by assumption) (by assumption))
      (first
        | (go_at_call 125; clear tk1; refine (b1 _ hB0.drew).mono ?_; intro e w1 hg; have he := hg.1; have hb1 := hg.2.2; have HI1 := hide hg.2.1; clear hg; subst he; have hB1 := hB0.drew.trans (hb1.mono hB0.size))
        | (go_at_call 125; refine (b2 _ _ hB1 HI1.out).mono ?_; intro e w2 hg; have he := hg.1; have hb2 := hg.2.2; have HI2 := hide hg.2.1; clear hg; subst he; have hB2 := hB1.trans (hb2.mono hB1.size)))
    go_wp2
    go_ret
    exact ⟨_, ⟨rfl, HI2.out, hB2⟩, HF.out _ _ hB0.size hB1.size⟩
end Go.Proofs.YtkkpdgfllnbigaaGreatDoor.Pm
