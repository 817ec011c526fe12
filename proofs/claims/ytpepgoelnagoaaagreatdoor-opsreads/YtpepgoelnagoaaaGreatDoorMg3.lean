/-
  MOVES IN A REGION THAT DRAWS ITS ORDER: an operation that yields its value is taken first; one that comes up alone; a call that comes up alone; the condition made stronger on the way.
  MOVES that any seat can take: appends and where they lay, moves in a region that draws its order (within a round of a range over a function too), functions that hold such a range and their marks, blocks of a few cells, what is handed back out of a block. 22 stands for the type of slices of bytes. It names no function of the program.
  TEXTS HELD AGAINST EACH OTHER: plainly (cmpB, cmpP), and what the program's and the document's functions answer.
  KEYS AND LABELS: plainly (keyB, labelB), and what the program's Key and Label answer.
  TEXTS CUT AT '/': plainly (cut47, splitB), and what Cut and the program's Split answer.
  KEYS GONE OVER: Clone, the program's Fronts, its closure, and a law for the statement 'for ahead, key := range Fronts(l)'.
-/
import Derived.WalkKit
import Derived.Deep.RegionHeld3
import Derived.Test.YtpepgoelnagoaaaGreatDoorMg2
import Derived.Test.YtpepgoelnagoaaaGreatDoorMg1
import Derived.WalkMore
import Derived.RangeFuncNested
import Derived.RangeFuncBound
import Derived.RangeFuncCalls
import Derived.RangeFuncLeaves
import Derived.Shelf.Abstract
import Derived.OwnWalkIn
import Derived.TacticsInMore
import Derived.LoopNIn
import Derived.LoopIn
import Derived.OrdersIn
import Derived.OwnWalk
import Derived.Deep.CutRange
import Derived.ProofKit
import Derived.OpenShut
import Derived.Lib.OthersKept
import Derived.Lib.TrimUEq
import Derived.Lib.MapLaws
import Derived.Laws.RangeAny
import Derived.Laws.RangeString
import Derived.Lib.ValidLaws
import Derived.Deep.QuietTactic
import Derived.BigQuiet
import Derived.Lib.Strings
namespace Go.Proofs.YtpepgoelnagoaaaGreatDoor
open Go.RowKit

theorem exec_same (ev : Operand → Value) (o : Oper) {OP : Op} {T : TypeId} (ho : o.op = OP) (ht : o.type = T) : execOp ev o = execOp ev { dst := none, op := OP, type := T, pos := "", after := #[], guard := none } := by
  unfold execOp
  rw [ho, ht]

section
variable {P : Program} {md : Region.Mode} {ops : Array Oper} {Q : Exit → Act → World → Prop} {S S' : World → Prop}

/-- A condition may be made stronger on the way. -/
theorem wpAnyH_mono (h : ∀ w, S' w → S w) : ∀ {fuel : Nat} {listed : Array Bool} {a : Act} {w : World}, wpAnyH P md ops Q S' fuel listed a w → wpAnyH P md ops Q S fuel listed a w
  | 0, _, _, _, k => k
  | _ + 1, _, _, _, k => ⟨k.1, fun i hi => wpOp_mono (fun _ w' q => ⟨h w' q.1, wpAnyH_mono h q.2⟩) (k.2 i hi)⟩

theorem take_op {i : Nat} {oi : Oper} {d : Tmp} {OP : Op} {T : TypeId} {v : Value} {fuel : Nat} {listed : Array Bool} {a : Act} {w : World} (hi : ops[i]? = some oi) (hd : oi.dst = some d) (ho : oi.op = OP) (ht : oi.type = T)
    (hs : Region.noSelect ops = true) (hf : Region.free md ops listed i = true) (hr : (Region.ready md ops listed).contains i = true)
    (hQ : ∀ c a w, Q (.panic c) (a.put (some d) v) w → Q (.panic c) a w) (hw : Region.wanted oi (yielded ops a.tmps) = true)
    (hy : ∀ w, S w → (execOp a.eval { dst := none, op := OP, type := T, pos := "", after := #[], guard := none }).run P w = .ok (.value v) w) (hS : S w)
    (h : wpAnyH P md ops Q S fuel (listed.setIfInBounds i true) (a.put (some d) v) w) : wpAnyH P md ops Q S (fuel + 1) listed a w := by
  refine wpAnyH_take (v := v) hi hs hf hr (by rw [hd]; exact hQ) (.inl ⟨hw, fun w hSw => ?_⟩) hS (by rw [hd]; exact h)
  rw [exec_same a.eval oi ho ht]
  exact hy w hSw

theorem alone_op {i : Nat} {oi : Oper} {d : Tmp} {OP : Op} {T : TypeId} {v : Value} {fuel : Nat} {listed : Array Bool} {a : Act} {w : World} (hi : ops[i]? = some oi) (hd : oi.dst = some d) (ho : oi.op = OP) (ht : oi.type = T)
    (hr : Region.ready md ops listed = [i]) (hw : Region.wanted oi (yielded ops a.tmps) = true)
    (hy : (execOp a.eval { dst := none, op := OP, type := T, pos := "", after := #[], guard := none }).run P w = .ok (.value v) w) (hS : S w)
    (h : wpAnyH P md ops Q S fuel (listed.setIfInBounds i true) (a.put (some d) v) w) : wpAnyH P md ops Q S (fuel + 1) listed a w := by
  refine wpAnyH_ready hr (by simp) (AllReadyH.cons hi (fun K hK => ?_) AllReadyH.nil)
  rw [if_pos hw]
  unfold Oper.wp
  rw [exec_same a.eval oi ho ht, hy]
  show K (a.put oi.dst v) w
  rw [hd]
  exact hK.out _ _ hS (fun _ => h)

theorem call_op {i : Nat} {oi : Oper} {d : Tmp} {OP : Op} {T : TypeId} {f : FuncId} {args : Array Value} {fuel : Nat} {listed : Array Bool} {a : Act} {w : World} (hi : ops[i]? = some oi) (hd : oi.dst = some d) (ho : oi.op = OP) (ht : oi.type = T)
    (hr : Region.ready md ops listed = [i]) (hw : Region.wanted oi (yielded ops a.tmps) = true)
    (hy : (execOp a.eval { dst := none, op := OP, type := T, pos := "", after := #[], guard := none }).run P w = .ok (.enter f args) w)
    (h : Calls P f args w fun e w' => ∃ v, e = .returned v ∧ S w' ∧ wpAnyH P md ops Q S fuel (listed.setIfInBounds i true) (a.put (some d) v) w') : wpAnyH P md ops Q S (fuel + 1) listed a w := by
  refine wpAnyH_ready hr (by simp) (AllReadyH.cons hi (fun K hK => ?_) AllReadyH.nil)
  rw [if_pos hw]
  unfold Oper.wp
  rw [exec_same a.eval oi ho ht, hy]
  refine Calls.mono h ?_
  rintro e w' ⟨v, rfl, hS, hx⟩
  show K (a.put oi.dst v) w'
  rw [hd]
  exact hK.out _ _ hS (fun _ => hx)

/-- An operation that yields nothing and turns the world (a store), and comes up alone. -/
theorem skip_op {i : Nat} {oi : Oper} {OP : Op} {T : TypeId} {fuel : Nat} {listed : Array Bool} {a : Act} {w w' : World} (hi : ops[i]? = some oi) (hd : oi.dst = none) (ho : oi.op = OP) (ht : oi.type = T)
    (hr : Region.ready md ops listed = [i]) (hw : Region.wanted oi (yielded ops a.tmps) = true)
    (hy : (execOp a.eval { dst := none, op := OP, type := T, pos := "", after := #[], guard := none }).run P w = .ok .skip w')
    (h : S w' ∧ wpAnyH P md ops Q S fuel (listed.setIfInBounds i true) a w') : wpAnyH P md ops Q S (fuel + 1) listed a w := by
  refine wpAnyH_ready hr (by simp) (AllReadyH.cons hi (fun K hK => ?_) AllReadyH.nil)
  rw [if_pos hw]
  unfold Oper.wp
  rw [exec_same a.eval oi ho ht, hy]
  show K (a.put oi.dst undef) w'
  rw [hd]
  exact hK.out _ _ h.1 (fun _ => h.2)
end
end Go.Proofs.YtpepgoelnagoaaaGreatDoor
namespace Go.Proofs.YtpepgoelnagoaaaGreatDoor
open Go.RowKit Go.Shelf
set_option linter.unusedSimpArgs false

theorem _root_.Go.Proofs.Tryz.info5 : (Tryz.prog.info? 5).map (fun i => (i.zero, i.size, i.bytes)) = some (some (.int .u8 0), 1, 1) := by kernel_rfl

theorem hide {p : Prop} (h : p) : Hid p := h

theorem U8.append {a b : List Int} (ha : U8 a) (hb : U8 b) : U8 (a ++ b) := fun y hy => by
  simp at hy
  rcases hy with h | h
  · exact ha y h
  · exact hb y h

theorem U8.nil : U8 [] := fun _ h => by cases h

theorem Own.form {e : TypeId} {w : World} {B : Nat} {v : Value} {l : List Int} (h : Own e w B v l) : ∃ ao cap, v = .slice ao l.length cap ∧ (ao = none → cap = 0) := by
  obtain ⟨ao, cap, rfl, _, _⟩ := h.shape
  refine ⟨ao, cap, rfl, fun hn => ?_⟩
  subst hn
  rcases h.2 with ⟨h1, _⟩ | ⟨g, c, cur, h1, _⟩
  · simp at h1; exact h1.2
  · simp at h1

/-- An operation in a region that draws its order, that comes up alone and turns the world. -/
theorem turn_op {P : Program} {md : Region.Mode} {ops : Array Oper} {Q : Exit → Act → World → Prop} {S : World → Prop} {i : Nat} {oi : Oper} {d : Tmp} {OP : Op} {T : TypeId} {v : Value} {fuel : Nat} {listed : Array Bool} {a : Act} {w w' : World} (hi : ops[i]? = some oi) (hd : oi.dst = some d) (ho : oi.op = OP) (ht : oi.type = T)
    (hr : Region.ready md ops listed = [i]) (hw : Region.wanted oi (yielded ops a.tmps) = true)
    (hy : (execOp a.eval { dst := none, op := OP, type := T, pos := "", after := #[], guard := none }).run P w = .ok (.value v) w') (hS : S w')
    (h : wpAnyH P md ops Q S fuel (listed.setIfInBounds i true) (a.put (some d) v) w') : wpAnyH P md ops Q S (fuel + 1) listed a w := by
  refine wpAnyH_ready hr (by simp) (AllReadyH.cons hi (fun K hK => ?_) AllReadyH.nil)
  rw [if_pos hw]
  unfold Oper.wp
  rw [exec_same a.eval oi ho ht, hy]
  show K (a.put oi.dst v) w'
  rw [hd]
  exact hK.out _ _ hS (fun _ => h)

theorem exec_append {P : Program} {ev : Operand → Value} {s x : Operand} {t T : TypeId} {v u v' : Value} {w w' : World} (hs : ev s = v) (hx : ev x = u) (hr : (Builtin.append_ #[t, t] T #[v, u]).run P w = .ok v' w') :
    (execOp ev { dst := none, op := .call { callee := .builtin .append, args := #[s, x], argTypes := #[t, t] }, type := T, pos := "", after := #[], guard := none }).run P w = .ok (.value v') w' := by
  simp [execOp, resolve, invoke, builtin, hs, hx, hr, Result.andThen]

theorem new2 (w : World) (o o' : Obj) : ((w.alloc o).alloc o').heap[w.heap.size]? = some o ∧ ((w.alloc o).alloc o').heap[w.heap.size + 1]? = some o' := by
  refine ⟨?_, ?_⟩
  · exact (World.grownBy_alloc (w.alloc o) o' none).block _ (by simp) (by simp) |>.trans (heap_alloc_new w o)
  · have := heap_alloc_new (w.alloc o) o'
    simpa using this

/-- A struct or an array that is handed back out of its block. -/
theorem ret_row {P : Program} {fn : Func} {p : Tmp} {ty : TypeId} (b : Nat) (cs : List Value) {R : Ending → World → Prop} {a : Act} {w : World} (h : fn.results = #[.cell p ty]) (hp : a.tmps.getD p undef = .pointer (some ⟨b, 0, none⟩))
    {d : TypeDesc} (hu : P.underlying ty = some d) (hd : d.isRow = true) (hi : (P.info? ty).map (·.size) = some cs.length) {t : TypeId} {fr : Nat × Nat} (hc : w.heap[b]? = some (.cells cs.toArray t fr)) (hdef : a.defers = [])
    (hR : R (.returned (.agg cs.toArray)) w) : bodyPost P fn R .ret a w := by
  refine bodyPost_ret (v := .agg cs.toArray) ?_ hdef hR
  rw [results_cell h, hp]
  have := run_loadVar_mid (P := P) w b 0 ty cs _ (fun j v hv => by rw [cell_of_row w b (0 + j) cs.toArray t fr hc, Nat.zero_add]; simpa using hv) hu hd hi
  simp [asAddr, Result.andThen, this]

/-- A struct out of its block, and a number beside it, are handed back. -/
theorem ret_row_tmp {P : Program} {fn : Func} {p q : Tmp} {ty : TypeId} (b : Nat) (cs : List Value) {R : Ending → World → Prop} {a : Act} {w : World} (h : fn.results = #[.cell p ty, .tmp q]) (hp : a.tmps.getD p undef = .pointer (some ⟨b, 0, none⟩)) {v : Value} (hq : a.tmps.getD q undef = v)
    {d : TypeDesc} (hu : P.underlying ty = some d) (hd : d.isRow = true) (hi : (P.info? ty).map (·.size) = some cs.length) {t : TypeId} {fr : Nat × Nat} (hc : w.heap[b]? = some (.cells cs.toArray t fr)) (hdef : a.defers = [])
    (hR : R (.returned (.tuple #[.agg cs.toArray, v])) w) : bodyPost P fn R .ret a w := by
  refine bodyPost_ret (v := .tuple #[.agg cs.toArray, v]) ?_ hdef hR
  have := run_loadVar_mid (P := P) w b 0 ty cs _ (fun j v hv => by rw [cell_of_row w b (0 + j) cs.toArray t fr hc, Nat.zero_add]; simpa using hv) hu hd hi
  have hp' : a.tmps[p]?.getD undef = .pointer (some ⟨b, 0, none⟩) := by simpa using hp
  have hq' : a.tmps[q]?.getD undef = v := by simpa using hq
  simp [results, h, hp', hq', asAddr, Sem.run_bind, Result.andThen, this]

/-- Two operations of a region that draws its order come up together: one that reads, one that turns the world. -/
theorem two_op {P : Program} {md : Region.Mode} {ops : Array Oper} {Q : Exit → Act → World → Prop} {S : World → Prop} {i j : Nat} {oi oj : Oper} {di dj : Tmp} {OPi OPj : Op} {Ti Tj : TypeId} {v u : Value} {fuel : Nat} {listed : Array Bool} {a : Act} {w w' : World}
    (hi : ops[i]? = some oi) (hdi : oi.dst = some di) (hoi : oi.op = OPi) (hti : oi.type = Ti) (hj : ops[j]? = some oj) (hdj : oj.dst = some dj) (hoj : oj.op = OPj) (htj : oj.type = Tj)
    (hr : Region.ready md ops listed = [i, j]) (hwi : Region.wanted oi (yielded ops a.tmps) = true) (hwj : Region.wanted oj (yielded ops a.tmps) = true)
    (hyi : (execOp a.eval { dst := none, op := OPi, type := Ti, pos := "", after := #[], guard := none }).run P w = .ok (.value v) w)
    (hyj : (execOp a.eval { dst := none, op := OPj, type := Tj, pos := "", after := #[], guard := none }).run P w = .ok (.value u) w')
    (hS : S w) (hS' : S w')
    (h1 : wpAnyH P md ops Q S fuel (listed.setIfInBounds i true) (a.put (some di) v) w) (h2 : wpAnyH P md ops Q S fuel (listed.setIfInBounds j true) (a.put (some dj) u) w') : wpAnyH P md ops Q S (fuel + 1) listed a w := by
  refine wpAnyH_ready hr (by simp) (AllReadyH.cons hi (fun K hK => ?_) (AllReadyH.cons hj (fun K hK => ?_) AllReadyH.nil))
  · rw [if_pos hwi]
    unfold Oper.wp
    rw [exec_same a.eval oi hoi hti, hyi]
    show K (a.put oi.dst v) w
    rw [hdi]
    exact hK.out _ _ hS (fun _ => h1)
  · rw [if_pos hwj]
    unfold Oper.wp
    rw [exec_same a.eval oj hoj htj, hyj]
    show K (a.put oj.dst u) w'
    rw [hdj]
    exact hK.out _ _ hS' (fun _ => h2)

/-- A post that no panic meets. -/
def noPanic (Q : Exit → Act → World → Prop) : Exit → Act → World → Prop
  | .panic _, _, _ => False
  | e, a, w => Q e a w

theorem wp_noPanic {P : Program} {c : Code} {Q : Exit → Act → World → Prop} {a : Act} {w : World} (h : c.wp P (noPanic Q) a w) : c.wp P Q a w :=
  Code.wp_mono (fun e a w q => by cases e <;> first | exact q.elim | exact q) h

/-- A function that holds a range over a function. -/
theorem calls_marks {f : FuncId} {fn : Func} {c : Code} {args : Array Value} {w : World} {R : Ending → World → Prop} (hf : Tryz.prog.funcs[f]? = some fn) (hb : fn.body = some c)
    (h : c.wp Tryz.prog (noPanic (bodyPostM Fence.wide 6 Tryz.prog fn R)) { tmps := args ++ Array.replicate (fn.ntmps - args.size) undef, defers := [] } w) : Calls Tryz.prog f args w R :=
  (callsIn_wide (n := 6)).1 (callsIn_of_wp_marks hf hb trivial (wpIn_wide.2 (wp_noPanic h)) rfl)

/-- The mark of a range over a function is taken up at the return. -/
theorem leave_mark {fn : Func} {tmps : Array Value} {R : Ending → World → Prop} {ds : List Deferred} {W : World} {D0 : Nat} (hK : W.heap[D0]? = some (.deferred (some []))) (h : LeavesInM Fence.wide 6 Tryz.prog fn tmps R ds .returning (W.putObj D0 (.deferred none))) :
    LeavesInM Fence.wide 6 Tryz.prog fn tmps R ({ target := .collected D0, args := #[] } :: ds) .returning W := ⟨by simp, .inl ⟨_, _, rfl, run_takeDeferred hK, h⟩⟩

theorem leave_none {fn : Func} {tmps : Array Value} {R : Ending → World → Prop} {W : World} {v : Value} (hr : (results fn tmps).run Tryz.prog W = .ok v W) (h : R (.returned v) W) : LeavesInM Fence.wide 6 Tryz.prog fn tmps R [] .returning W := ⟨v, hr, h⟩

section
variable {P : Program} {ops : Array Oper} {Q : Exit → Act → World → Prop} {l n : Nat}
end

/-- An operation in a region that draws its order, whose guard says no. -/
theorem pass_op {P : Program} {md : Region.Mode} {ops : Array Oper} {Q : Exit → Act → World → Prop} {S : World → Prop} {i : Nat} {oi : Oper} {d : Tmp} {fuel : Nat} {listed : Array Bool} {a : Act} {w : World} (hi : ops[i]? = some oi) (hd : oi.dst = some d)
    (hs : Region.noSelect ops = true) (hf : Region.free md ops listed i = true) (hr : (Region.ready md ops listed).contains i = true)
    (hQ : ∀ c a w, Q (.panic c) (a.put (some d) undef) w → Q (.panic c) a w) (hw : Region.wanted oi (yielded ops a.tmps) = false) (hS : S w)
    (h : wpAnyH P md ops Q S fuel (listed.setIfInBounds i true) (a.put (some d) undef) w) : wpAnyH P md ops Q S (fuel + 1) listed a w :=
  wpAnyH_take (v := undef) hi hs hf hr (by rw [hd]; exact hQ) (.inr ⟨hw, rfl⟩) hS (by rw [hd]; exact h)

/-- A cell of its own is handed back, behind a range over a function. -/
theorem leave_cell {fn : Func} {tmps : Array Value} {p : Tmp} (b : Nat) {x : Bool} {R : Ending → World → Prop} {W : World} (h : fn.results = #[.cell p 4]) (hp : tmps.getD p undef = .pointer (some ⟨b, 0, none⟩))
    (hc : W.cell? ⟨b, 0, none⟩ = some (.bool x)) (hR : R (.returned (.bool x)) W) : LeavesInM Fence.wide 6 Tryz.prog fn tmps R [] .returning W := by
  refine leave_none (v := .bool x) ?_ hR
  rw [results_cell h, hp]
  have : (loadVar 4 ⟨b, 0, none⟩).run Tryz.prog W = .ok (.bool x) W := by go_simp
  simp [asAddr, Result.andThen, this]

/-- How a round of the statement may be left. -/
def rpost (D : Nat → Prop) (I : Nat → World → Prop) (Ix : Code → World → Prop) (W : World) (k : Nat) : Exit → Act → World → Prop
  | .normal, _, W' => Only D W W' ∧ I k W'
  | .ret, _, W' => Only D W W' ∧ Ix .ret W'
  | .exit id, _, W' => Only D W W' ∧ Ix (.exit id) W'
  | .goto t, _, W' => Only D W W' ∧ Ix (.goto t) W'
  | .panic _, _, _ => False
  | .outgrown, _, _ => False

theorem only_putObj (W : World) (l : Nat) (o : Obj) : Only (fun j => j = l) W (W.putObj l o) :=
  ⟨rfl, rfl, rfl, by simp, fun k _ hk => World.putObj_heap_other hk⟩

theorem own_new {w : World} {B : Nat} {ao : Option Addr} {n c : Nat} {l : List Int} (h : Own 5 w B (.slice ao n c) l) : ∀ j, Value.ownBlock (.slice ao n c) = some j → B ≤ j ∧ j < w.heap.size := fun j hj => World.ownsRow.lt h j hj

end Go.Proofs.YtpepgoelnagoaaaGreatDoor
namespace Go.Proofs.YtpepgoelnagoaaaGreatDoor
open Go.RowKit Go.Shelf
set_option linter.unusedSimpArgs false

/-- Behind this address lie the texts l. -/
def Rs (w : World) (ao : Option Addr) (l : List ByteArray) : Prop :=
  (ao = none → l = []) ∧ ∀ a, ao = some a → ∀ j s, l[j]? = some s → w.cell? (a.add j) = some (.string s)
theorem Rs.at {w : World} {ao : Option Addr} {l : List ByteArray} (h : Rs w ao l) {k : Nat} {s : ByteArray} (hs : l[k]? = some s) : ∃ ab off, ao = some ⟨ab, off, none⟩ ∧ w.cell? ⟨ab, off + k, none⟩ = some (.string s) := by
  cases ao with
  | none => have := h.1 rfl; subst this; simp at hs
  | some a =>
    obtain ⟨ab, off, sp⟩ := a
    have hl : 0 < l.length := by have := (List.getElem?_eq_some_iff.1 hs).1; omega
    have h0 := h.2 _ rfl 0 l[0] (List.getElem?_eq_getElem hl)
    simp only [Addr.add, if_true] at h0
    have e : sp = none := World.cell?_spot h0
    subst e
    have hk := h.2 _ rfl k s hs
    rw [add_lit] at hk
    exact ⟨ab, off, rfl, hk⟩
theorem Rs.only {C : Nat → Prop} {w w' : World} {ao : Option Addr} {l : List ByteArray} (hr : Rs w ao l) (h : Only C w w') (hC : ∀ a, ao = some a → ¬ C a.block) : Rs w' ao l :=
  ⟨hr.1, fun a ha j u hj => h.cell (hr.2 a ha j u hj) (by
    have : (a.add j).block = a.block := by unfold Addr.add; split <;> rfl
    rw [this]; exact hC a ha)⟩
theorem Rs.below {w w' : World} {ao : Option Addr} {l : List ByteArray} (h : Rs w ao l) (hb : Below w.heap.size w w') : Rs w' ao l := h.only (Only.ofBelow hb) (fun _ _ d => d.elim)
theorem Rs.drew {w : World} {ao : Option Addr} {l : List ByteArray} (h : Rs w ao l) : Rs w.drew ao l := h.below (Below.refl _ w).drew
theorem Rs.nil (w : World) (ao : Option Addr) : Rs w ao [] := ⟨fun _ => rfl, by simp⟩
theorem Rs.take {w : World} {ao : Option Addr} {l : List ByteArray} (h : Rs w ao l) (k : Nat) : Rs w ao (l.take k) :=
  ⟨fun ha => by rw [h.1 ha]; simp, fun a ha j u hj => h.2 a ha j u (by
    rw [List.getElem?_take] at hj
    split at hj
    · exact hj
    · cases hj)⟩

end Go.Proofs.YtpepgoelnagoaaaGreatDoor
namespace Go.Proofs.YtpepgoelnagoaaaGreatDoor
open Go.RowKit Go.Shelf
set_option linter.unusedSimpArgs false

def keyByte (b : UInt8) : Bool := decide (32 ≤ b.toNat) && decide (b.toNat ≠ 47)
def keyB (l : List UInt8) : Bool := decide (1 ≤ l.length) && decide (l.length ≤ 64) && Lib.validD l && l.all keyByte
/-- Where a rune begins with a byte from 128 on, all its bytes are such. -/
theorem decodeN_high {n b0 b1 b2 b3 : Nat} (h0 : 128 ≤ b0) (hn : 1 ≤ n) : 128 ≤ (Lib.decodeN n b0 b1 b2 b3).1 ∧ 1 ≤ (Lib.decodeN n b0 b1 b2 b3).2 ∧ (Lib.decodeN n b0 b1 b2 b3).2 ≤ n ∧ (2 ≤ (Lib.decodeN n b0 b1 b2 b3).2 → 128 ≤ b1) ∧ (3 ≤ (Lib.decodeN n b0 b1 b2 b3).2 → 128 ≤ b2) ∧ (4 ≤ (Lib.decodeN n b0 b1 b2 b3).2 → 128 ≤ b3) ∧ (Lib.decodeN n b0 b1 b2 b3).2 ≤ 4 := by
  unfold Lib.decodeN
  rw [if_neg (by omega)]
  split
  · split <;> simp only <;> omega
  · split
    · split <;> simp only <;> omega
    · split
      · split <;> simp only <;> omega
      · simp only; omega

theorem all_skip (p : UInt8 → Bool) (hp : ∀ b : UInt8, 128 ≤ b.toNat → p b = true) (s : ByteArray) (pos : Nat) (h : pos < s.size) (h0 : 128 ≤ (s.data.toList.getD pos 0).toNat) :
    (s.data.toList.drop pos).all p = (s.data.toList.drop (pos + (Utf8.decode s pos).2)).all p ∧ pos + (Utf8.decode s pos).2 ≤ s.size ∧ 1 ≤ (Utf8.decode s pos).2 ∧ 128 ≤ (Utf8.decode s pos).1 := by
  have hl : s.data.toList.length = s.size := (Lib.size_eq s).symm
  rw [Lib.decode_N]
  obtain ⟨d0, d1, d2, d3, d4, d5, d6⟩ := decodeN_high (n := s.data.toList.length - pos) (b1 := (s.data.toList.getD (pos + 1) 0).toNat) (b2 := (s.data.toList.getD (pos + 2) 0).toNat) (b3 := (s.data.toList.getD (pos + 3) 0).toNat) h0 (by omega)
  generalize Lib.decodeN (s.data.toList.length - pos) (s.data.toList.getD pos 0).toNat (s.data.toList.getD (pos + 1) 0).toNat (s.data.toList.getD (pos + 2) 0).toNat (s.data.toList.getD (pos + 3) 0).toNat = D at d0 d1 d2 d3 d4 d5 d6
  refine ⟨?_, by omega, d1, d0⟩
  have step : ∀ k, pos + k < s.data.toList.length → 128 ≤ (s.data.toList.getD (pos + k) 0).toNat → (s.data.toList.drop (pos + k)).all p = (s.data.toList.drop (pos + k + 1)).all p := fun k hk hb => by
    rw [List.drop_eq_getElem_cons hk, List.all_cons]
    have : s.data.toList.getD (pos + k) 0 = s.data.toList[pos + k] := by simp [List.getD, List.getElem?_eq_getElem hk]
    rw [this] at hb
    rw [hp _ hb, Bool.true_and]
  have s0 := step 0 (by omega) h0
  simp only [Nat.add_zero] at s0
  rcases (show D.2 = 1 ∨ D.2 = 2 ∨ D.2 = 3 ∨ D.2 = 4 by omega) with e | e | e | e
  · rw [e, s0]
  · rw [e, s0, step 1 (by omega) (d3 (by omega))]
  · rw [e, s0, step 1 (by omega) (d3 (by omega)), step 2 (by omega) (d4 (by omega))]
  · rw [e, s0, step 1 (by omega) (d3 (by omega)), step 2 (by omega) (d4 (by omega)), step 3 (by omega) (d5 (by omega))]
theorem getD_byte (s : ByteArray) (pos : Nat) (h : pos < s.size) : s.data.toList.getD pos 0 = s[pos]'h := by
  have hl : pos < s.data.toList.length := by rw [← Lib.size_eq]; exact h
  simp [List.getD, List.getElem?_eq_getElem hl]
  rfl
theorem all_one (p : UInt8 → Bool) (s : ByteArray) (pos : Nat) (h : pos < s.size) : (s.data.toList.drop pos).all p = (p (s[pos]'h) && (s.data.toList.drop (pos + 1)).all p) := by
  have hl : s.data.toList.length = s.size := (Lib.size_eq s).symm
  rw [List.drop_eq_getElem_cons (by omega), List.all_cons]
  rw [← getD_byte s pos h]
  simp [List.getD, List.getElem?_eq_getElem (show pos < s.data.toList.length by omega)]

theorem ofKey_any (r : Int) (w : World) : Calls Tryz.prog 130 #[.int .i32 r] w fun e w' => e = .returned (.bool (decide (32 ≤ r) && decide (r ≠ 47))) ∧ w' = w := by
  by_cases h1 : 32 ≤ r
  · by_cases h2 : r = 47
    · subst h2
      go_enter Tryz.func130, Tryz.ntmps130
      go_wp2
      go_ret
      exact ⟨rfl, rfl⟩
    · have h3 : (r == 47) = false := by simpa using h2
      have h1d : decide (32 ≤ r) = true := by simpa using h1
      have h2d : decide (r ≠ 47) = true := by simpa using h2
      have h4 : (r != 47) = true := by simpa using h2
      rw [h1d, h2d]
      go_enter Tryz.func130, Tryz.ntmps130
      go_wp2
      go_ret
      exact ⟨rfl, rfl⟩
  · have h1d : decide (32 ≤ r) = false := by simpa using h1
    rw [h1d, Bool.false_and]
    go_enter Tryz.func130, Tryz.ntmps130
    go_wp2
    go_ret
    exact ⟨rfl, rfl⟩

/-- The tables of unicode/utf8, as they are laid. -/
def Tabs (w : World) : Prop := Lib.Utf8Tabs 0 1 w
theorem valid_any (s : ByteArray) (w : World) (hs : s.size ≤ 9223372036854775807) (hT : Tabs w) : Calls Tryz.prog 129 #[.string s] w fun e w' => e = .returned (.bool (Lib.validD s.data.toList)) ∧ Below w.heap.size w w' :=
  Any.utf8_ValidString Tryz.laysValid s w hs hT
theorem Tabs.below {w w' : World} (h : Tabs w) (hb : Below w.heap.size w w') : Tabs w' := Utf8Tabs_below h hb

set_option maxHeartbeats 1000000 in
set_option maxRecDepth 100000 in
theorem key_any (s : ByteArray) (w : World) (hT : Tabs w) : Calls Tryz.prog 91 #[.string s] w fun e w' => e = .returned (.bool (keyB s.data.toList)) ∧ Below w.heap.size w w' := by
  unfold keyB
  rw [← Lib.size_eq]
  by_cases h1 : 1 ≤ s.size
  · by_cases h2 : s.size ≤ 64
    · have hv := valid_any s w (by omega) hT
      generalize hV : Lib.validD s.data.toList = V at hv ⊢
      have d1 : decide (1 ≤ s.size) = true := by simpa using h1
      have d2 : decide (s.size ≤ 64) = true := by simpa using h2
      have e1 : ¬ ((s.size : Int) < 1) := by omega
      have e2 : ¬ ((64 : Int) < (s.size : Int)) := by omega
      rw [d1, d2]
      clear hV
      cases V with
      | false =>
        go_enter Tryz.func91, Tryz.ntmps91
        go_wp2_with (go_at_call 129; refine hv.mono ?_; rintro e w1 ⟨rfl, b1⟩)
        go_ret
        exact ⟨rfl, b1⟩
      | true =>
        obtain ⟨ANS, hANS⟩ : ∃ ANS, ANS = s.data.toList.all keyByte := ⟨_, rfl⟩
        rw [← hANS]
        simp only [Bool.true_and]
        have HA := hide hANS
        clear hANS
        go_enter Tryz.func91, Tryz.ntmps91
        go_wp2_with (go_at_call 129; refine hv.mono ?_; rintro e w1 ⟨rfl, b1⟩)
        have hs1 := b1.size
        go_loopw [4] (fun _ wr => ∃ pos : Nat, pos ≤ s.size ∧ wr.heap[w1.heap.size]? = some (.stringIter s pos) ∧ Below w.heap.size w wr ∧ Hid ((s.data.toList.drop pos).all keyByte = ANS)) (fun _ wr => s.size - wr.iterPos w1.heap.size)
        case atStart =>
          refine ⟨0, Nat.zero_le _, ?_, b1.alloc hs1 _, hide (by simpa using HA.out.symm)⟩
          have := World.iter_heap w1 s 0
          simpa using this
        case round =>
          obtain ⟨pos, hps, hit, hbw, hrest⟩ := hrel
          have hsz : w1.heap.size < wr.heap.size := (Array.getElem?_eq_some_iff.1 hit).1
          by_cases hp : pos < s.size
          · have hnx : ∀ ty, (Instr.next (.pointer (some ⟨w1.heap.size, 0, none⟩)) true ty).run Tryz.prog wr = _ := fun ty => Lib.run_next_any_at wr w1.heap.size s pos ty hit hp
            have hit2 := Lib.iterAt_heap wr w1.heap.size s pos (pos + (Utf8.decode s pos).2) hit
            have hbw2 := Lib.below_iterAt hbw (k := w1.heap.size) (by omega) s (pos + (Utf8.decode s pos).2)
            have hmu : wr.iterPos w1.heap.size = pos := by simp [World.iterPos, hit]
            by_cases ha : (s[pos]'hp).toNat < 128
            · have hdec := decode_ascii s pos hp ha
              have hone := all_one keyByte s pos hp
              have hof := ofKey_any ((s[pos]'hp).toNat : Int) (wr.iterAt w1.heap.size s (pos + 1))
              rw [hdec] at hnx hit2 hbw2
              simp only at hnx hit2 hbw2
              have hkb : (decide ((32 : Int) ≤ ((s[pos]'hp).toNat : Int)) && decide (((s[pos]'hp).toNat : Int) ≠ 47)) = keyByte (s[pos]'hp) := by
                unfold keyByte
                congr 1
                · exact decide_eq_decide.2 (by omega)
                · exact decide_eq_decide.2 (by omega)
              rw [hkb] at hof
              generalize wr.iterAt w1.heap.size s (pos + 1) = W1 at hnx hit2 hbw2 hof
              have HO := hide hone
              generalize ((s[pos]'hp).toNat : Int) = rr at hof hnx
              clear hone hdec hkb ha
              generalize keyByte (s[pos]'hp) = kb at HO hof
              cases kb with
              | true =>
                go_wp2_with (go_at_call 130; refine hof.mono ?_; rintro e w' ⟨rfl, rfl⟩)
                go_roundw
                case rel => exact ⟨pos + 1, by omega, hit2, hbw2, hide (by have := HO.out; rw [Bool.true_and] at this; rw [← this]; exact hrest.out)⟩
                case measure =>
                  have hmu2 : w'.iterPos w1.heap.size = pos + 1 := by simp [World.iterPos, hit2]
                  rw [hmu, hmu2]; omega
              | false =>
                have hE : ANS = false := by rw [← hrest.out, HO.out, Bool.false_and]
                have HE := hide hE
                clear hE
                go_wp2_with (go_at_call 130; refine hof.mono ?_; rintro e w' ⟨rfl, rfl⟩)
                go_ret
                exact ⟨by rw [HE.out]; rfl, hbw2⟩
            · obtain ⟨a1, a2, a3, a4⟩ := all_skip keyByte (fun b hb => by unfold keyByte; simp; omega) s pos hp (by rw [getD_byte s pos hp]; omega)
              have hof := ofKey_any ((Utf8.decode s pos).1 : Int) (wr.iterAt w1.heap.size s (pos + (Utf8.decode s pos).2))
              have hkb : (decide ((32 : Int) ≤ ((Utf8.decode s pos).1 : Int)) && decide (((Utf8.decode s pos).1 : Int) ≠ 47)) = true := by
                simp; omega
              rw [hkb] at hof
              have HS := hide a1
              clear a1 hkb ha
              generalize (Utf8.decode s pos).2 = ww at hnx hit2 hbw2 hof HS a2 a3
              generalize wr.iterAt w1.heap.size s (pos + ww) = W1 at hnx hit2 hbw2 hof
              generalize ((Utf8.decode s pos).1 : Int) = rr at hof hnx
              clear a4
              go_wp2_with (go_at_call 130; refine hof.mono ?_; rintro e w' ⟨rfl, rfl⟩)
              go_roundw
              case rel => exact ⟨pos + ww, a2, hit2, hbw2, hide (by rw [← HS.out]; exact hrest.out)⟩
              case measure =>
                have hmu2 : w'.iterPos w1.heap.size = pos + ww := by simp [World.iterPos, hit2]
                rw [hmu, hmu2]; omega
          · have hnx : ∀ ty, (Instr.next (.pointer (some ⟨w1.heap.size, 0, none⟩)) true ty).run Tryz.prog wr = _ := fun ty => Lib.run_next_end_at wr w1.heap.size s pos ty hit hp
            have hE : ANS = true := by
              rw [← hrest.out, List.drop_eq_nil_of_le (by rw [← Lib.size_eq]; omega)]; rfl
            have HE := hide hE
            clear hE
            go_wp2
            go_ret
            exact ⟨by rw [HE.out]; rfl, hbw⟩
    · have d2 : decide (s.size ≤ 64) = false := by simpa using h2
      have e1 : ¬ ((s.size : Int) < 1) := by omega
      have e2 : (64 : Int) < (s.size : Int) := by omega
      rw [d2, Bool.and_false, Bool.false_and, Bool.false_and]
      go_enter Tryz.func91, Tryz.ntmps91
      go_wp2
      go_ret
      exact ⟨rfl, Below.refl _ _⟩
  · have d1 : decide (1 ≤ s.size) = false := by simpa using h1
    have e1 : (s.size : Int) < 1 := by omega
    rw [d1, Bool.false_and, Bool.false_and, Bool.false_and]
    go_enter Tryz.func91, Tryz.ntmps91
    go_wp2
    go_ret
    exact ⟨rfl, Below.refl _ _⟩
end Go.Proofs.YtpepgoelnagoaaaGreatDoor
namespace Go.Proofs.YtpepgoelnagoaaaGreatDoor
open Go.RowKit Go.Shelf
set_option linter.unusedSimpArgs false

def cut47 : List UInt8 → List UInt8 × List UInt8 × Bool
  | [] => ([], [], false)
  | b :: t => if b = 47 then ([], t, true) else (b :: (cut47 t).1, (cut47 t).2.1, (cut47 t).2.2)
theorem cut47_index (l : List UInt8) : (Lib.indexByte l 47 = -1 ∧ cut47 l = (l, [], false)) ∨ ∃ n : Nat, Lib.indexByte l 47 = (n : Int) ∧ n < l.length ∧ cut47 l = (l.take n, l.drop (n + 1), true) := by
  induction l with
  | nil => exact .inl ⟨rfl, rfl⟩
  | cons b t ih =>
    rw [Lib.indexByte, cut47]
    by_cases hb : b = 47
    · subst hb
      exact .inr ⟨0, by simp, by simp, by simp⟩
    · rw [if_neg hb, if_neg (by simpa using hb)]
      rcases ih with ⟨h1, h2⟩ | ⟨n, h1, h2, h3⟩
      · refine .inl ⟨by rw [h1]; rfl, by rw [h2]⟩
      · refine .inr ⟨n + 1, ?_, by simpa using h2, by rw [h3]; simp⟩
        rw [h1, if_neg (by rw [beq_iff_eq]; omega)]
        rfl
theorem cut47_length (l : List UInt8) : (cut47 l).1.length ≤ l.length ∧ (cut47 l).2.1.length ≤ l.length := by
  rcases cut47_index l with ⟨_, h⟩ | ⟨n, _, _, h⟩ <;> rw [h] <;> simp <;> omega

/-- What Cut answers. -/
def cutE (l : List UInt8) : Value := .tuple #[.string ⟨(cut47 l).1.toArray⟩, .string ⟨(cut47 l).2.1.toArray⟩, .bool (cut47 l).2.2]
theorem ext_take (s : ByteArray) (n : Nat) : s.extract 0 n = ⟨(s.data.toList.take n).toArray⟩ := by
  apply ByteArray.ext
  apply Array.toList_inj.1
  simp [ByteArray.data_extract]
theorem ext_drop (s : ByteArray) (n : Nat) : s.extract n s.size = ⟨(s.data.toList.drop n).toArray⟩ := by
  apply ByteArray.ext
  apply Array.toList_inj.1
  rw [Lib.ext_list]

set_option maxHeartbeats 1000000 in
set_option maxRecDepth 100000 in
theorem liteCut_any (s : ByteArray) (w : World) (hs : s.size ≤ 1000000) : Calls Tryz.prog 148 #[.string s, .string { data := #[47] }] w fun e w' => e = .returned (cutE s.data.toList) ∧ ∃ n, w' = w.drewN n := by
  have hl : s.data.toList.length = s.size := (Lib.size_eq s).symm
  have hi := Tryz.stringslite_Index_one s 47 w
  unfold cutE
  rcases cut47_index s.data.toList with ⟨h1, h2⟩ | ⟨n, h1, h2, h3⟩
  · rw [h2]
    rw [h1] at hi
    have e0 : (⟨s.data.toList.toArray⟩ : ByteArray) = s := by apply ByteArray.ext; simp
    simp only [e0]
    go_enter Tryz.func148, Tryz.ntmps148
    go_wp2_with (go_at_call 178; refine hi.mono ?_; rintro e w' ⟨rfl, rfl⟩)
    go_ret3
    exact ⟨rfl, 0, rfl⟩
  · rw [h3]
    rw [h1] at hi
    simp only [← ext_take, ← ext_drop]
    have a1 : (0 : Int) ≤ (n : Int) := by omega
    have a2 : (n : Int) ≤ (s.size : Int) := by omega
    have a3 : (n : Int) + 1 ≤ (s.size : Int) := by omega
    have a4 : (0 : Int) ≤ (n : Int) + 1 := by omega
    clear h1 h3
    go_enter Tryz.func148, Tryz.ntmps148
    go_wp2_with (go_at_call 178; refine hi.mono ?_; rintro e w' ⟨rfl, rfl⟩)
    go_quiet (fail)
    go_wp2
    go_ret3
    exact ⟨rfl, _, rfl⟩
theorem cut_any (s : ByteArray) (w : World) (hs : s.size ≤ 1000000) : Calls Tryz.prog 118 #[.string s, .string { data := #[47] }] w fun e w' => e = .returned (cutE s.data.toList) ∧ ∃ n, w' = w.drewN n := by
  have h := liteCut_any s w hs
  unfold cutE at h ⊢
  generalize cut47 s.data.toList = C at h ⊢
  obtain ⟨k, r, m⟩ := C
  simp only at h ⊢
  go_enter Tryz.func118, Tryz.ntmps118
  go_wp2_with (go_at_call 148; refine h.mono ?_; rintro e w' ⟨rfl, n, rfl⟩)
  go_ret3
  exact ⟨rfl, n, rfl⟩

/-- The slice value v owns the texts L, in a block from B on. -/
def Os (w : World) (B : Nat) (v : Value) (L : List ByteArray) : Prop := w.ownsRow B 9 1 v L.length (L.map Value.string)
theorem Os.shape {w : World} {B : Nat} {v : Value} {L : List ByteArray} (h : Os w B v L) : ∃ ao c, v = .slice ao L.length c ∧ Rs w ao L ∧ (∀ a, ao = some a → B ≤ a.block ∧ a.block < w.heap.size) ∧ (ao = none → c = 0) ∧ L.length ≤ c := by
  have hlt := World.ownsRow.lt h
  have hcells := fun g => World.ownsRow.cells h (g := g)
  rcases h.2 with ⟨rfl, hn⟩ | ⟨g, cap, cur, rfl, hb, hg, hnc, rest⟩
  · exact ⟨none, 0, by rw [hn], ⟨fun _ => List.eq_nil_of_length_eq_zero hn, by simp⟩, by simp, fun _ => rfl, by omega⟩
  · refine ⟨some ⟨g, 0, none⟩, cap, rfl, ⟨by simp, ?_⟩, ?_, by simp, hnc⟩
    · intro a ha j s hj
      cases ha
      exact hcells g rfl j (.string s) (by rw [List.getElem?_map, hj]; rfl)
    · intro a ha
      cases ha
      exact hlt g rfl
theorem Os.only {w w' : World} {B : Nat} {v : Value} {L : List ByteArray} {D : Nat → Prop} (h : Os w B v L) (ho : Only D w w') (hv : ∀ k, v.ownBlock = some k → ¬ D k) : Os w' B v L := ho.row h hv
theorem Os.below {w w' : World} {B : Nat} {v : Value} {L : List ByteArray} (h : Os w B v L) (hb : Below w.heap.size w w') : Os w' B v L := h.only (Only.ofBelow hb) (fun _ _ d => d.elim)
theorem Os.nil (w : World) (B : Nat) : Os w B (.slice none 0 0) [] := World.ownsRow_nil _ _ _ _
theorem Tryz.info9 : (Tryz.prog.info? 9).map (fun i => (i.zero, i.size, i.bytes)) = some (some (.string ⟨#[]⟩), 1, 16) := by kernel_rfl

def keysOf (l : List (List UInt8)) : List ByteArray := l.map (fun k => ⟨k.toArray⟩)
def splitGo : Nat → List (List UInt8) → List UInt8 → Option (List (List UInt8))
  | 0, _, _ => none
  | n + 1, acc, rest => if acc.length = 6 ∨ keyB (cut47 rest).1 = false then none else if (cut47 rest).2.2 then splitGo n (acc ++ [(cut47 rest).1]) (cut47 rest).2.1 else some (acc ++ [(cut47 rest).1])
def splitB (l : List UInt8) : Option (List (List UInt8)) := if Lib.hasPrefix l [47] then (if l.drop 1 = [] then some [] else splitGo 8 [] (l.drop 1)) else none

/-- What Split answers. -/
def SplitE (w w' : World) (r : Option (List (List UInt8))) (e : Ending) : Prop :=
  (r = none ∧ e = .returned (.tuple #[.slice none 0 0, .int .i64 4])) ∨ ∃ L v, r = some L ∧ e = .returned (.tuple #[v, .int .i64 0]) ∧ Os w' w.heap.size v (keysOf L)
end Go.Proofs.YtpepgoelnagoaaaGreatDoor
namespace Go.Proofs.YtpepgoelnagoaaaGreatDoor
open Go.RowKit Go.Shelf
set_option linter.unusedSimpArgs false
attribute [local go_sem] Oper.semAt_some

theorem clone_any {w : World} {ao : Option Addr} {c : Nat} {l : List ByteArray} (h : Rs w ao l) (hl : l.length ≤ 1000000) :
    Calls Tryz.prog 81 #[.slice ao l.length c] w fun e w' => ∃ v, e = .returned v ∧ Os w' w.heap.size v l ∧ Below w.heap.size w w' := by
  cases ao with
  | none =>
    have := h.1 rfl
    subst this
    refine (Tryz.slices_Clone_string_nil _ _ w).mono ?_
    rintro e w' ⟨rfl, rfl⟩
    exact ⟨_, rfl, Os.nil _ _, Below.refl _ _⟩
  | some a =>
    cases l with
    | nil =>
      refine (Tryz.slices_Clone_string_zero a c w).mono ?_
      rintro e w' ⟨v, rfl, h1, _, h2⟩
      exact ⟨v, rfl, h1, h2⟩
    | cons x t =>
      obtain ⟨ab, off, ha, _⟩ := h.at (k := 0) (s := x) rfl
      cases ha
      refine (Tryz.slices_Clone_string ab off (x :: t).length c (x :: t) w (Nat.le_refl _) (by omega) (fun j hj => ?_)).mono ?_
      · obtain ⟨ab', off', ha', hc'⟩ := h.at (List.getElem?_eq_getElem hj)
        cases ha'
        rw [hc']
        simp [List.getD, List.getElem?_eq_getElem hj]
      · rintro e w' ⟨v, rfl, h1, _, h2⟩
        rw [List.take_length] at h1
        exact ⟨v, rfl, h1, h2⟩

/-- The keys, as the closure has them in the box L. -/
structure KAt (W : World) (L : Nat) (ao : Option Addr) (c : Nat) (l : List ByteArray) : Prop where
  box : W.cell? ⟨L, 0, none⟩ = some (.slice ao l.length c)
  rs : Rs W ao l
  cap : l.length ≤ c
  nil : ao = none → c = 0
theorem KAt.only {W W' : World} {L : Nat} {ao : Option Addr} {c : Nat} {l : List ByteArray} {D : Nat → Prop} (h : KAt W L ao c l) (k : Only D W W') (hL : ¬ D L) (hv : ∀ a, ao = some a → ¬ D a.block) : KAt W' L ao c l :=
  ⟨k.cell h.box hL, h.rs.only k hv, h.cap, h.nil⟩
theorem KAt.below {W W' : World} {L : Nat} {ao : Option Addr} {c : Nat} {l : List ByteArray} (h : KAt W L ao c l) (k : Below W.heap.size W W') : KAt W' L ao c l :=
  h.only (Only.ofBelow k) (fun d => d.elim) (fun _ _ d => d.elim)

theorem fronts_any {w : World} {ao : Option Addr} {c : Nat} {l : List ByteArray} (h : Rs w ao l) (hl : l.length ≤ 1000000) :
    Calls Tryz.prog 128 #[.slice ao l.length c] w fun e w' => ∃ L a' c', e = .returned (.func (.func 167) #[] #[.pointer (some ⟨L, 0, none⟩)]) ∧ KAt w' L a' c' l ∧ w.heap.size ≤ L ∧ (∀ a, a' = some a → w.heap.size ≤ a.block ∧ a.block < w'.heap.size) ∧ Below w.heap.size w w' := by
  have hc := clone_any (c := c) h hl
  go_enter Tryz.func128, Tryz.ntmps128
  go_wp2_with (go_at_call 81; refine hc.mono ?_; rintro e w1 ⟨v, rfl, hO, b1⟩; obtain ⟨a', c', rfl, hr, hb, hn, hcp⟩ := hO.shape)
  go_ret
  have hb2 : Below w1.heap.size w1 (w1.alloc (.cells #[.slice a' l.length c'] 30)) := (Below.refl _ w1).alloc (Nat.le_refl _) _
  refine ⟨w1.heap.size, a', c', rfl, ⟨?_, hr.below hb2, hcp, hn⟩, b1.size, fun a ha => ⟨(hb a ha).1, ?_⟩, b1.trans (hb2.mono b1.size)⟩
  · rw [cell_of_row _ _ 0 _ 30 (0, 0) (heap_alloc_new w1 _)]; rfl
  · have := (hb a ha).2; simp; omega

/-- What a round may turn: blocks of D that were there when it began, and the keys that it was handed. -/
def Turns (D : Nat → Prop) (m : Nat) (v : Value) : Nat → Prop := fun j => (D j ∧ j < m) ∨ v.ownBlock = some j

theorem sliceS_hi {ao : Option Addr} {n c j : Nat} (hj : j ≤ c) (hn : ao = none → c = 0) (w : World) : (Instr.slice 30 (.slice ao n c) none (some (.int .i64 j)) none).run Tryz.prog w = .ok (.slice ao j c) w := by
  have h2 : (0 : Int) ≤ (j : Int) ∧ (j : Int) ≤ (c : Int) := by omega
  by_cases hc : c = 0
  · subst hc
    simp [Instr.slice, Instr.sliceBounds, Instr.sliceBound, asIntOf, run_underlying Tryz.underlying30, go_sem, hj]
  · cases ao with
    | none => exact (hc (hn rfl)).elim
    | some a => simp [Instr.slice, Instr.sliceBounds, Instr.sliceBound, asIntOf, run_underlying Tryz.underlying30, go_sem, hj, hc, Addr.add]

set_option maxRecDepth 100000 in
set_option maxHeartbeats 600000 in
/-- The closure, whatever the rounds do. -/
theorem fronts1_in (l L : Nat) (ao : Option Addr) (c : Nat) (ks : List ByteArray) (hlen : ks.length ≤ 1000000) (D : Nat → Prop) (J : Nat → World → Prop) (Jx : World → Prop)
    (hDL : ¬ D L) (hDa : ∀ a, ao = some a → ¬ D a.block)
    (hY : ∀ k key v W0 W, ks[k]? = some key → J k W0 → Below W0.heap.size W0 W → Os W W0.heap.size v (ks.take k) → YieldAt Fence.wide 4 Tryz.prog l #[v, .string key] W fun e W' =>
      Only (Turns D W0.heap.size v) W W' ∧ ((e = .returned (.bool true) ∧ J (k + 1) W') ∨ (e = .returned (.bool false) ∧ Jx W')))
    (W : World) (hL : KAt W L ao c ks) (h0 : J 0 W) :
    CallsIn Fence.wide 5 Tryz.prog 167 #[.func (.yield l) #[] #[], .pointer (some ⟨L, 0, none⟩)] W fun e W' => (∃ v, e = .returned v) ∧ (J ks.length W' ∨ Jx W') := by
  have hn : 1 ≤ 5 := by omega
  have hbx := hL.box
  obtain ⟨N, hN⟩ : ∃ N, N = ks.length := ⟨_, rfl⟩
  rw [← hN] at hbx hlen ⊢
  have HN := hide hN
  clear hN
  refine callsIn_of_wp Tryz.func167 rfl trivial ?_ rfl
  simp only [Tryz.ntmps167, List.size_toArray, List.length_cons, List.length_nil, Nat.reduceAdd, Nat.reduceSub, Array.replicate_succ, Array.replicate_zero, List.push_toArray, List.append_toArray, List.nil_append, List.cons_append]
  gi_wp2
  gi_loopw [7] (fun i wr => ∃ k : Nat, k ≤ N ∧ i = .int .i64 k ∧ J k wr ∧ KAt wr L ao c ks) (fun i _ => N - (intOf i).toNat)
  case atStart => exact ⟨0, Nat.zero_le _, rfl, h0, hL⟩
  case round =>
    obtain ⟨k, hk, rfl, hJ, hK⟩ := hrel
    by_cases hlt : k < N
    · have d1 : decide (k < N) = true := by simpa using hlt
      have d1' : (k : Int) < (N : Int) := by omega
      obtain ⟨key, hkey⟩ : ∃ key, ks[k]? = some key := ⟨_, List.getElem?_eq_getElem (by rw [← HN.out]; exact hlt)⟩
      obtain ⟨ab, off, rfl, hck⟩ := hK.rs.at hkey
      have hbox := hK.box
      rw [← HN.out] at hbox
      have hcap := hK.cap
      have hsl := fun W' => sliceS_hi (ao := some ⟨ab, off, none⟩) (n := N) (c := c) (j := k) (by have := HN.out; omega) (by simp) W'
      have htl : (ks.take k).length = k := by rw [List.length_take]; have := HN.out; omega
      have hcl := clone_any (c := c) (hK.rs.take k) (by rw [htl]; omega)
      rw [htl] at hcl
      have HJ := hide (And.intro hJ (And.intro hK hkey))
      clear hJ hK hkey hL h0 htl
      gi_wp2_with (refine ⟨trivial, ?_⟩; gi_at_call 81; refine (callsIn_wide.2 hcl).mono ?_; rintro e w2 ⟨v, rfl, hO, b2⟩; obtain ⟨fn, tmps, assign, body, hy, hR⟩ := hY k key v wr w2 HJ.out.2.2 HJ.out.1 b2 hO)
      refine hR.mono ?_
      rintro e W5 ⟨hon, (⟨rfl, hJ5⟩ | ⟨rfl, hJx5⟩)⟩
      · have hnt : ∀ j, j < wr.heap.size → ¬ D j → ¬ Turns D wr.heap.size v j := fun j hj hd e => by
          rcases e with e | e
          · exact hd e.1
          · have := (World.ownsRow.lt hO j e).1; omega
        have hK5 := (HJ.out.2.1.below b2).only hon (hnt L (World.block_lt_of_cell? _ _ HJ.out.2.1.box) hDL) (fun a ha => by
          cases ha
          have := World.block_lt_of_cell? _ _ hck
          exact hnt _ this (hDa _ rfl))
        have HJ5 := hide (And.intro hJ5 hK5)
        clear hJ5 hK5 hR hcl
        gi_wp2
        go_roundw
        case rel => exact ⟨k + 1, by omega, by go_num, HJ5.out.1, HJ5.out.2⟩
        case measure => simp [intOf]; omega
      · gi_wp2
        refine bodyPost_ret (results_none rfl _ _ _) rfl ?_
        exact ⟨⟨_, rfl⟩, .inr hJx5⟩
    · obtain rfl : k = N := by omega
      have d1 : decide (k < k) = false := by simp
      have HJ := hide hJ
      clear hJ hL h0 hK
      gi_wp2
      go_end0
      exact ⟨⟨_, rfl⟩, .inl HJ.out⟩
end Go.Proofs.YtpepgoelnagoaaaGreatDoor
