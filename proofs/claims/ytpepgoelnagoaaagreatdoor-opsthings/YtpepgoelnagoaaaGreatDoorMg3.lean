/-
  MOVES IN A REGION THAT DRAWS ITS ORDER: an operation that yields its value is taken first; one that comes up alone; a call that comes up alone; the condition made stronger on the way.
  MOVES that any seat can take: appends and where they lay, moves in a region that draws its order (within a round of a range over a function too), functions that hold such a range and their marks, blocks of a few cells, what is handed back out of a block. 22 stands for the type of slices of bytes. It names no function of the program.
  TEXTS HELD AGAINST EACH OTHER: plainly (cmpB, cmpP), and what the program's and the document's functions answer.
  KEYS AND LABELS: plainly (keyB, labelB), and what the program's Key and Label answer.
  TEXTS CUT AT '/': plainly (cut47, splitB), and what Cut and the program's Split answer.
-/
import Derived.WalkKit
import Derived.Deep.RegionHeld3
import Derived.Test.YtpepgoelnagoaaaGreatDoorMg2
import Derived.Test.YtpepgoelnagoaaaGreatDoorMg1
import Derived.WalkMore
import Derived.RangeFuncNested
import Derived.RangeFuncBound
import Derived.RangeFuncCalls
import Derived.RangeFuncLeaves
import Derived.Shelf.Abstract
import Derived.OwnWalkIn
import Derived.TacticsInMore
import Derived.LoopNIn
import Derived.LoopIn
import Derived.OrdersIn
import Derived.OwnWalk
import Derived.Deep.CutRange
import Derived.ProofKit
import Derived.OpenShut
import Derived.Lib.OthersKept
import Derived.Lib.TrimUEq
import Derived.Lib.MapLaws
import Derived.Laws.RangeAny
import Derived.Laws.RangeString
import Derived.Lib.ValidLaws
import Derived.Deep.QuietTactic
import Derived.BigQuiet
import Derived.Lib.Strings
namespace Go.Proofs.YtpepgoelnagoaaaGreatDoor
open Go.RowKit

theorem exec_same (ev : Operand → Value) (o : Oper) {OP : Op} {T : TypeId} (ho : o.op = OP) (ht : o.type = T) : execOp ev o = execOp ev { dst := none, op := OP, type := T, pos := "", after := #[], guard := none } := by
  unfold execOp
  rw [ho, ht]

section
variable {P : Program} {md : Region.Mode} {ops : Array Oper} {Q : Exit → Act → World → Prop} {S S' : World → Prop}

theorem take_op {i : Nat} {oi : Oper} {d : Tmp} {OP : Op} {T : TypeId} {v : Value} {fuel : Nat} {listed : Array Bool} {a : Act} {w : World} (hi : ops[i]? = some oi) (hd : oi.dst = some d) (ho : oi.op = OP) (ht : oi.type = T)
    (hs : Region.noSelect ops = true) (hf : Region.free md ops listed i = true) (hr : (Region.ready md ops listed).contains i = true)
    (hQ : ∀ c a w, Q (.panic c) (a.put (some d) v) w → Q (.panic c) a w) (hw : Region.wanted oi (yielded ops a.tmps) = true)
    (hy : ∀ w, S w → (execOp a.eval { dst := none, op := OP, type := T, pos := "", after := #[], guard := none }).run P w = .ok (.value v) w) (hS : S w)
    (h : wpAnyH P md ops Q S fuel (listed.setIfInBounds i true) (a.put (some d) v) w) : wpAnyH P md ops Q S (fuel + 1) listed a w := by
  refine wpAnyH_take (v := v) hi hs hf hr (by rw [hd]; exact hQ) (.inl ⟨hw, fun w hSw => ?_⟩) hS (by rw [hd]; exact h)
  rw [exec_same a.eval oi ho ht]
  exact hy w hSw

theorem call_op {i : Nat} {oi : Oper} {d : Tmp} {OP : Op} {T : TypeId} {f : FuncId} {args : Array Value} {fuel : Nat} {listed : Array Bool} {a : Act} {w : World} (hi : ops[i]? = some oi) (hd : oi.dst = some d) (ho : oi.op = OP) (ht : oi.type = T)
    (hr : Region.ready md ops listed = [i]) (hw : Region.wanted oi (yielded ops a.tmps) = true)
    (hy : (execOp a.eval { dst := none, op := OP, type := T, pos := "", after := #[], guard := none }).run P w = .ok (.enter f args) w)
    (h : Calls P f args w fun e w' => ∃ v, e = .returned v ∧ S w' ∧ wpAnyH P md ops Q S fuel (listed.setIfInBounds i true) (a.put (some d) v) w') : wpAnyH P md ops Q S (fuel + 1) listed a w := by
  refine wpAnyH_ready hr (by simp) (AllReadyH.cons hi (fun K hK => ?_) AllReadyH.nil)
  rw [if_pos hw]
  unfold Oper.wp
  rw [exec_same a.eval oi ho ht, hy]
  refine Calls.mono h ?_
  rintro e w' ⟨v, rfl, hS, hx⟩
  show K (a.put oi.dst v) w'
  rw [hd]
  exact hK.out _ _ hS (fun _ => hx)

/-- An operation that yields nothing and turns the world (a store), and comes up alone. -/
theorem skip_op {i : Nat} {oi : Oper} {OP : Op} {T : TypeId} {fuel : Nat} {listed : Array Bool} {a : Act} {w w' : World} (hi : ops[i]? = some oi) (hd : oi.dst = none) (ho : oi.op = OP) (ht : oi.type = T)
    (hr : Region.ready md ops listed = [i]) (hw : Region.wanted oi (yielded ops a.tmps) = true)
    (hy : (execOp a.eval { dst := none, op := OP, type := T, pos := "", after := #[], guard := none }).run P w = .ok .skip w')
    (h : S w' ∧ wpAnyH P md ops Q S fuel (listed.setIfInBounds i true) a w') : wpAnyH P md ops Q S (fuel + 1) listed a w := by
  refine wpAnyH_ready hr (by simp) (AllReadyH.cons hi (fun K hK => ?_) AllReadyH.nil)
  rw [if_pos hw]
  unfold Oper.wp
  rw [exec_same a.eval oi ho ht, hy]
  show K (a.put oi.dst undef) w'
  rw [hd]
  exact hK.out _ _ h.1 (fun _ => h.2)
end
end Go.Proofs.YtpepgoelnagoaaaGreatDoor
namespace Go.Proofs.YtpepgoelnagoaaaGreatDoor
open Go.RowKit Go.Shelf
set_option linter.unusedSimpArgs false

theorem _root_.Go.Proofs.Tryz.info5 : (Tryz.prog.info? 5).map (fun i => (i.zero, i.size, i.bytes)) = some (some (.int .u8 0), 1, 1) := by kernel_rfl

theorem hide {p : Prop} (h : p) : Hid p := h

theorem U8.append {a b : List Int} (ha : U8 a) (hb : U8 b) : U8 (a ++ b) := fun y hy => by
  simp at hy
  rcases hy with h | h
  · exact ha y h
  · exact hb y h

theorem U8.nil : U8 [] := fun _ h => by cases h

theorem Own.form {e : TypeId} {w : World} {B : Nat} {v : Value} {l : List Int} (h : Own e w B v l) : ∃ ao cap, v = .slice ao l.length cap ∧ (ao = none → cap = 0) := by
  obtain ⟨ao, cap, rfl, _, _⟩ := h.shape
  refine ⟨ao, cap, rfl, fun hn => ?_⟩
  subst hn
  rcases h.2 with ⟨h1, _⟩ | ⟨g, c, cur, h1, _⟩
  · simp at h1; exact h1.2
  · simp at h1

/-- An operation in a region that draws its order, that comes up alone and turns the world. -/
theorem turn_op {P : Program} {md : Region.Mode} {ops : Array Oper} {Q : Exit → Act → World → Prop} {S : World → Prop} {i : Nat} {oi : Oper} {d : Tmp} {OP : Op} {T : TypeId} {v : Value} {fuel : Nat} {listed : Array Bool} {a : Act} {w w' : World} (hi : ops[i]? = some oi) (hd : oi.dst = some d) (ho : oi.op = OP) (ht : oi.type = T)
    (hr : Region.ready md ops listed = [i]) (hw : Region.wanted oi (yielded ops a.tmps) = true)
    (hy : (execOp a.eval { dst := none, op := OP, type := T, pos := "", after := #[], guard := none }).run P w = .ok (.value v) w') (hS : S w')
    (h : wpAnyH P md ops Q S fuel (listed.setIfInBounds i true) (a.put (some d) v) w') : wpAnyH P md ops Q S (fuel + 1) listed a w := by
  refine wpAnyH_ready hr (by simp) (AllReadyH.cons hi (fun K hK => ?_) AllReadyH.nil)
  rw [if_pos hw]
  unfold Oper.wp
  rw [exec_same a.eval oi ho ht, hy]
  show K (a.put oi.dst v) w'
  rw [hd]
  exact hK.out _ _ hS (fun _ => h)

theorem exec_append {P : Program} {ev : Operand → Value} {s x : Operand} {t T : TypeId} {v u v' : Value} {w w' : World} (hs : ev s = v) (hx : ev x = u) (hr : (Builtin.append_ #[t, t] T #[v, u]).run P w = .ok v' w') :
    (execOp ev { dst := none, op := .call { callee := .builtin .append, args := #[s, x], argTypes := #[t, t] }, type := T, pos := "", after := #[], guard := none }).run P w = .ok (.value v') w' := by
  simp [execOp, resolve, invoke, builtin, hs, hx, hr, Result.andThen]

theorem row_form {w : World} {B e s n : Nat} {v : Value} {xs : List Value} (h : w.ownsRow B e s v n xs) : ∃ ao c, v = .slice ao n c ∧ (∀ a, ao = some a → ∃ g, a = ⟨g, 0, none⟩) ∧ (ao = none → c = 0) := by
  rcases h.2 with ⟨h1, h2⟩ | ⟨g, cp, _, h1, _⟩
  · subst h2; exact ⟨none, 0, h1, by simp, by simp⟩
  · exact ⟨_, cp, h1, by intro a ha; cases ha; exact ⟨g, rfl⟩, by simp⟩

/-- The cells of a block of three. -/
theorem blk3 {w : World} {R : Nat} {t : TypeId} {x y z : Value} (h : w.heap[R]? = some (.cells #[x, y, z] t (0, 0))) : w.cell? ⟨R, 0, none⟩ = some x ∧ w.cell? ⟨R, 1, none⟩ = some y ∧ w.cell? ⟨R, 2, none⟩ = some z ∧ w.frozen? ⟨R, 0, none⟩ = false ∧ w.frozen? ⟨R, 1, none⟩ = false ∧ w.frozen? ⟨R, 2, none⟩ = false := by
  refine ⟨?_, ?_, ?_, frozen_of_row w R 0 _ t h, frozen_of_row w R 1 _ t h, frozen_of_row w R 2 _ t h⟩
  · rw [cell_of_row w R 0 _ t (0, 0) h]; rfl
  · rw [cell_of_row w R 1 _ t (0, 0) h]; rfl
  · rw [cell_of_row w R 2 _ t (0, 0) h]; rfl

theorem new2 (w : World) (o o' : Obj) : ((w.alloc o).alloc o').heap[w.heap.size]? = some o ∧ ((w.alloc o).alloc o').heap[w.heap.size + 1]? = some o' := by
  refine ⟨?_, ?_⟩
  · exact (World.grownBy_alloc (w.alloc o) o' none).block _ (by simp) (by simp) |>.trans (heap_alloc_new w o)
  · have := heap_alloc_new (w.alloc o) o'
    simpa using this

/-- A struct or an array that is handed back out of its block. -/
theorem ret_row {P : Program} {fn : Func} {p : Tmp} {ty : TypeId} (b : Nat) (cs : List Value) {R : Ending → World → Prop} {a : Act} {w : World} (h : fn.results = #[.cell p ty]) (hp : a.tmps.getD p undef = .pointer (some ⟨b, 0, none⟩))
    {d : TypeDesc} (hu : P.underlying ty = some d) (hd : d.isRow = true) (hi : (P.info? ty).map (·.size) = some cs.length) {t : TypeId} {fr : Nat × Nat} (hc : w.heap[b]? = some (.cells cs.toArray t fr)) (hdef : a.defers = [])
    (hR : R (.returned (.agg cs.toArray)) w) : bodyPost P fn R .ret a w := by
  refine bodyPost_ret (v := .agg cs.toArray) ?_ hdef hR
  rw [results_cell h, hp]
  have := run_loadVar_mid (P := P) w b 0 ty cs _ (fun j v hv => by rw [cell_of_row w b (0 + j) cs.toArray t fr hc, Nat.zero_add]; simpa using hv) hu hd hi
  simp [asAddr, Result.andThen, this]

/-- A struct out of its block, and a number beside it, are handed back. -/
theorem ret_row_tmp {P : Program} {fn : Func} {p q : Tmp} {ty : TypeId} (b : Nat) (cs : List Value) {R : Ending → World → Prop} {a : Act} {w : World} (h : fn.results = #[.cell p ty, .tmp q]) (hp : a.tmps.getD p undef = .pointer (some ⟨b, 0, none⟩)) {v : Value} (hq : a.tmps.getD q undef = v)
    {d : TypeDesc} (hu : P.underlying ty = some d) (hd : d.isRow = true) (hi : (P.info? ty).map (·.size) = some cs.length) {t : TypeId} {fr : Nat × Nat} (hc : w.heap[b]? = some (.cells cs.toArray t fr)) (hdef : a.defers = [])
    (hR : R (.returned (.tuple #[.agg cs.toArray, v])) w) : bodyPost P fn R .ret a w := by
  refine bodyPost_ret (v := .tuple #[.agg cs.toArray, v]) ?_ hdef hR
  have := run_loadVar_mid (P := P) w b 0 ty cs _ (fun j v hv => by rw [cell_of_row w b (0 + j) cs.toArray t fr hc, Nat.zero_add]; simpa using hv) hu hd hi
  have hp' : a.tmps[p]?.getD undef = .pointer (some ⟨b, 0, none⟩) := by simpa using hp
  have hq' : a.tmps[q]?.getD undef = v := by simpa using hq
  simp [results, h, hp', hq', asAddr, Sem.run_bind, Result.andThen, this]

/-- A post that no panic meets. -/
def noPanic (Q : Exit → Act → World → Prop) : Exit → Act → World → Prop
  | .panic _, _, _ => False
  | e, a, w => Q e a w

theorem wp_noPanic {P : Program} {c : Code} {Q : Exit → Act → World → Prop} {a : Act} {w : World} (h : c.wp P (noPanic Q) a w) : c.wp P Q a w :=
  Code.wp_mono (fun e a w q => by cases e <;> first | exact q.elim | exact q) h

/-- A function that holds a range over a function. -/
theorem calls_marks {f : FuncId} {fn : Func} {c : Code} {args : Array Value} {w : World} {R : Ending → World → Prop} (hf : Tryz.prog.funcs[f]? = some fn) (hb : fn.body = some c)
    (h : c.wp Tryz.prog (noPanic (bodyPostM Fence.wide 6 Tryz.prog fn R)) { tmps := args ++ Array.replicate (fn.ntmps - args.size) undef, defers := [] } w) : Calls Tryz.prog f args w R :=
  (callsIn_wide (n := 6)).1 (callsIn_of_wp_marks hf hb trivial (wpIn_wide.2 (wp_noPanic h)) rfl)

/-- The mark of a range over a function is taken up at the return. -/
theorem leave_mark {fn : Func} {tmps : Array Value} {R : Ending → World → Prop} {ds : List Deferred} {W : World} {D0 : Nat} (hK : W.heap[D0]? = some (.deferred (some []))) (h : LeavesInM Fence.wide 6 Tryz.prog fn tmps R ds .returning (W.putObj D0 (.deferred none))) :
    LeavesInM Fence.wide 6 Tryz.prog fn tmps R ({ target := .collected D0, args := #[] } :: ds) .returning W := ⟨by simp, .inl ⟨_, _, rfl, run_takeDeferred hK, h⟩⟩

theorem leave_none {fn : Func} {tmps : Array Value} {R : Ending → World → Prop} {W : World} {v : Value} (hr : (results fn tmps).run Tryz.prog W = .ok v W) (h : R (.returned v) W) : LeavesInM Fence.wide 6 Tryz.prog fn tmps R [] .returning W := ⟨v, hr, h⟩

section
variable {P : Program} {ops : Array Oper} {Q : Exit → Act → World → Prop} {l n : Nat}
end

/-- An operation in a region that draws its order, whose guard says no. -/
theorem pass_op {P : Program} {md : Region.Mode} {ops : Array Oper} {Q : Exit → Act → World → Prop} {S : World → Prop} {i : Nat} {oi : Oper} {d : Tmp} {fuel : Nat} {listed : Array Bool} {a : Act} {w : World} (hi : ops[i]? = some oi) (hd : oi.dst = some d)
    (hs : Region.noSelect ops = true) (hf : Region.free md ops listed i = true) (hr : (Region.ready md ops listed).contains i = true)
    (hQ : ∀ c a w, Q (.panic c) (a.put (some d) undef) w → Q (.panic c) a w) (hw : Region.wanted oi (yielded ops a.tmps) = false) (hS : S w)
    (h : wpAnyH P md ops Q S fuel (listed.setIfInBounds i true) (a.put (some d) undef) w) : wpAnyH P md ops Q S (fuel + 1) listed a w :=
  wpAnyH_take (v := undef) hi hs hf hr (by rw [hd]; exact hQ) (.inr ⟨hw, rfl⟩) hS (by rw [hd]; exact h)

/-- A cell of its own is handed back, behind a range over a function. -/
theorem leave_cell {fn : Func} {tmps : Array Value} {p : Tmp} (b : Nat) {x : Bool} {R : Ending → World → Prop} {W : World} (h : fn.results = #[.cell p 4]) (hp : tmps.getD p undef = .pointer (some ⟨b, 0, none⟩))
    (hc : W.cell? ⟨b, 0, none⟩ = some (.bool x)) (hR : R (.returned (.bool x)) W) : LeavesInM Fence.wide 6 Tryz.prog fn tmps R [] .returning W := by
  refine leave_none (v := .bool x) ?_ hR
  rw [results_cell h, hp]
  have : (loadVar 4 ⟨b, 0, none⟩).run Tryz.prog W = .ok (.bool x) W := by go_simp
  simp [asAddr, Result.andThen, this]

/-- How a round of the statement may be left. -/
def rpost (D : Nat → Prop) (I : Nat → World → Prop) (Ix : Code → World → Prop) (W : World) (k : Nat) : Exit → Act → World → Prop
  | .normal, _, W' => Only D W W' ∧ I k W'
  | .ret, _, W' => Only D W W' ∧ Ix .ret W'
  | .exit id, _, W' => Only D W W' ∧ Ix (.exit id) W'
  | .goto t, _, W' => Only D W W' ∧ Ix (.goto t) W'
  | .panic _, _, _ => False
  | .outgrown, _, _ => False

theorem only_putObj (W : World) (l : Nat) (o : Obj) : Only (fun j => j = l) W (W.putObj l o) :=
  ⟨rfl, rfl, rfl, by simp, fun k _ hk => World.putObj_heap_other hk⟩

end Go.Proofs.YtpepgoelnagoaaaGreatDoor
namespace Go.Proofs.YtpepgoelnagoaaaGreatDoor
open Go.RowKit Go.Shelf
set_option linter.unusedSimpArgs false

/-- Behind this address lie the texts l. -/
def Rs (w : World) (ao : Option Addr) (l : List ByteArray) : Prop :=
  (ao = none → l = []) ∧ ∀ a, ao = some a → ∀ j s, l[j]? = some s → w.cell? (a.add j) = some (.string s)
theorem Rs.at {w : World} {ao : Option Addr} {l : List ByteArray} (h : Rs w ao l) {k : Nat} {s : ByteArray} (hs : l[k]? = some s) : ∃ ab off, ao = some ⟨ab, off, none⟩ ∧ w.cell? ⟨ab, off + k, none⟩ = some (.string s) := by
  cases ao with
  | none => have := h.1 rfl; subst this; simp at hs
  | some a =>
    obtain ⟨ab, off, sp⟩ := a
    have hl : 0 < l.length := by have := (List.getElem?_eq_some_iff.1 hs).1; omega
    have h0 := h.2 _ rfl 0 l[0] (List.getElem?_eq_getElem hl)
    simp only [Addr.add, if_true] at h0
    have e : sp = none := World.cell?_spot h0
    subst e
    have hk := h.2 _ rfl k s hs
    rw [add_lit] at hk
    exact ⟨ab, off, rfl, hk⟩
theorem Rs.only {C : Nat → Prop} {w w' : World} {ao : Option Addr} {l : List ByteArray} (hr : Rs w ao l) (h : Only C w w') (hC : ∀ a, ao = some a → ¬ C a.block) : Rs w' ao l :=
  ⟨hr.1, fun a ha j u hj => h.cell (hr.2 a ha j u hj) (by
    have : (a.add j).block = a.block := by unfold Addr.add; split <;> rfl
    rw [this]; exact hC a ha)⟩
theorem Rs.below {w w' : World} {ao : Option Addr} {l : List ByteArray} (h : Rs w ao l) (hb : Below w.heap.size w w') : Rs w' ao l := h.only (Only.ofBelow hb) (fun _ _ d => d.elim)
theorem Rs.drew {w : World} {ao : Option Addr} {l : List ByteArray} (h : Rs w ao l) : Rs w.drew ao l := h.below (Below.refl _ w).drew
theorem Rs.nil (w : World) (ao : Option Addr) : Rs w ao [] := ⟨fun _ => rfl, by simp⟩
theorem Rs.take {w : World} {ao : Option Addr} {l : List ByteArray} (h : Rs w ao l) (k : Nat) : Rs w ao (l.take k) :=
  ⟨fun ha => by rw [h.1 ha]; simp, fun a ha j u hj => h.2 a ha j u (by
    rw [List.getElem?_take] at hj
    split at hj
    · exact hj
    · cases hj)⟩

def cmpB (a b : ByteArray) : Int := Lib.compareBytes a.data.toList b.data.toList
def cmpP : List ByteArray → List ByteArray → Int
  | [], [] => 0
  | [], _ :: _ => -1
  | _ :: _, [] => 1
  | a :: p, b :: q => if cmpB a b = 0 then cmpP p q else cmpB a b
theorem cmpP_step {l m : List ByteArray} {k : Nat} {x y : ByteArray} (hx : l[k]? = some x) (hy : m[k]? = some y) : cmpP (l.drop k) (m.drop k) = if cmpB x y = 0 then cmpP (l.drop (k + 1)) (m.drop (k + 1)) else cmpB x y := by
  obtain ⟨h1, rfl⟩ := List.getElem?_eq_some_iff.1 hx
  obtain ⟨h2, rfl⟩ := List.getElem?_eq_some_iff.1 hy
  rw [List.drop_eq_getElem_cons h1, List.drop_eq_getElem_cons h2, cmpP]
theorem cmpP_end {l m : List ByteArray} : (l = [] → m = [] → cmpP l m = 0) ∧ (l = [] → m ≠ [] → cmpP l m = -1) ∧ (l ≠ [] → m = [] → cmpP l m = 1) := by
  refine ⟨?_, ?_, ?_⟩ <;> cases l <;> cases m <;> simp [cmpP]

theorem cmp_any (a b : ByteArray) (w : World) : Calls Tryz.prog 127 #[.string a, .string b] w fun e w' => e = .returned (.int .i64 (cmpB a b)) ∧ w' = w := by
  go_enter Tryz.func127, Tryz.ntmps127
  go_wp2_with (go_at_call 166; refine (Tryz.strings_Compare a b _).mono ?_; rintro e w' ⟨rfl, rfl⟩)
  go_ret
  exact ⟨rfl, rfl⟩

set_option maxHeartbeats 1000000 in
set_option maxRecDepth 100000 in
theorem compareFunc_any {w : World} {a b : Option Addr} {c d : Nat} {l m : List ByteArray} (hl : Rs w a l) (hm : Rs w b m) (hn : l.length ≤ 9223372036854775807) :
    Calls Tryz.prog 164 #[.slice a l.length c, .slice b m.length d, .func (.func 127) #[] #[]] w fun e w' => e = .returned (.int .i64 (cmpP l m)) ∧ w' = w := by
  obtain ⟨N, hN⟩ : ∃ N, N = l.length := ⟨_, rfl⟩
  obtain ⟨M, hM⟩ : ∃ M, M = m.length := ⟨_, rfl⟩
  obtain ⟨R, hR⟩ : ∃ R, R = cmpP l m := ⟨_, rfl⟩
  rw [← hN] at hn
  rw [← hN, ← hM, ← hR]
  have H := hide (And.intro hN (And.intro hM hR))
  clear hN hM hR
  go_enter Tryz.func164, Tryz.ntmps164
  go_wp2
  go_loopw [13] (fun iv wr => ∃ i : Nat, i ≤ N ∧ i ≤ M ∧ iv = .int .i64 i ∧ wr = w ∧ Hid (cmpP (l.drop i) (m.drop i) = R)) (fun iv _ => N - (intOf iv).toNat)
  case atStart => exact ⟨0, by omega, by omega, rfl, rfl, hide (by simpa using H.out.2.2.symm)⟩
  case round =>
    obtain ⟨i, hi, him, rfl, rfl, hrest⟩ := hrel
    by_cases h1 : i < N
    · have d1 : decide (i < N) = true := by simpa using h1
      have d1' : (i : Int) < (N : Int) := by omega
      obtain ⟨x, hx⟩ : ∃ x, l[i]? = some x := ⟨_, List.getElem?_eq_getElem (by rw [← H.out.1]; exact h1)⟩
      obtain ⟨ab, off, rfl, hcx⟩ := hl.at hx
      by_cases h2 : i < M
      · have d2 : decide (M ≤ i) = false := by simpa using h2
        have d2' : ¬ ((M : Int) ≤ (i : Int)) := by omega
        have d3' : (i : Int) < (M : Int) := by omega
        obtain ⟨y, hy⟩ : ∃ y, m[i]? = some y := ⟨_, List.getElem?_eq_getElem (by rw [← H.out.2.1]; exact h2)⟩
        obtain ⟨bb, ob, rfl, hcy⟩ := hm.at hy
        have hst := cmpP_step hx hy
        have hcv := cmp_any x y wr
        obtain ⟨cv, hcv'⟩ : ∃ cv, cv = cmpB x y := ⟨_, rfl⟩
        rw [← hcv'] at hst hcv
        have HS := hide hst
        clear hst hcv' hx hy
        by_cases hz : cv = 0
        · have hzb : (cv == 0) = true := by simp [hz]
          have HZ := hide hz
          clear hz
          go_wp2_with (go_at_call 127; refine hcv.mono ?_; rintro e w' ⟨rfl, rfl⟩)
          go_roundw
          case rel => exact ⟨i + 1, by omega, by omega, by go_num, by first | rfl | trivial, hide (by have := HS.out; rw [if_pos HZ.out] at this; rw [← this]; exact hrest.out)⟩
          case measure => simp [intOf]; omega
        · have hzb : (cv == 0) = false := by simpa using hz
          go_wp2_with (go_at_call 127; refine hcv.mono ?_; rintro e w' ⟨rfl, rfl⟩)
          go_ret
          refine ⟨?_, rfl⟩
          have := HS.out
          rw [if_neg hz, hrest.out] at this
          rw [this]; rfl
      · obtain rfl : i = M := by omega
        have d2 : decide (i ≤ i) = true := by simp
        have e1 : cmpP (l.drop i) (m.drop i) = 1 := by
          refine cmpP_end.2.2 ?_ ?_
          · intro e; have := congrArg List.length e; simp at this; have := H.out.1; omega
          · have := H.out.2.1; rw [List.drop_eq_nil_iff]; omega
        have E := hide (hrest.out.symm.trans e1)
        clear e1
        go_wp2
        go_ret
        exact ⟨by rw [E.out]; rfl, rfl⟩
    · obtain rfl : i = N := by omega
      have d1 : decide (i < i) = false := by simp
      by_cases h2 : i < M
      · have d2 : decide (i < M) = true := by simpa using h2
        have d2' : (i : Int) < (M : Int) := by omega
        have e1 : cmpP (l.drop i) (m.drop i) = -1 := by
          refine cmpP_end.2.1 ?_ ?_
          · have := H.out.1; rw [List.drop_eq_nil_iff]; omega
          · intro e; have := congrArg List.length e; simp at this; have := H.out.2.1; omega
        have E := hide (hrest.out.symm.trans e1)
        clear e1
        go_wp2
        go_ret
        exact ⟨by rw [E.out]; rfl, rfl⟩
      · obtain rfl : i = M := by omega
        have e1 : cmpP (l.drop i) (m.drop i) = 0 := by
          refine cmpP_end.1 ?_ ?_
          · have := H.out.1; rw [List.drop_eq_nil_iff]; omega
          · have := H.out.2.1; rw [List.drop_eq_nil_iff]; omega
        have E := hide (hrest.out.symm.trans e1)
        clear e1
        go_wp2
        go_ret
        exact ⟨by rw [E.out]; rfl, rfl⟩

theorem cmpPath_any {w : World} {a b : Option Addr} {c d : Nat} {l m : List ByteArray} (hl : Rs w a l) (hm : Rs w b m) (hn : l.length ≤ 9223372036854775807) :
    Calls Tryz.prog 125 #[.slice a l.length c, .slice b m.length d] w fun e w' => e = .returned (.int .i64 (cmpP l m)) ∧ w' = w := by
  have h := compareFunc_any (c := c) (d := d) hl hm hn
  go_enter Tryz.func125, Tryz.ntmps125
  go_wp2_with (go_at_call 164; refine h.mono ?_; rintro e w' ⟨rfl, rfl⟩)
  go_ret
  exact ⟨rfl, rfl⟩
end Go.Proofs.YtpepgoelnagoaaaGreatDoor
namespace Go.Proofs.YtpepgoelnagoaaaGreatDoor
open Go.RowKit Go.Shelf
set_option linter.unusedSimpArgs false

def keyByte (b : UInt8) : Bool := decide (32 ≤ b.toNat) && decide (b.toNat ≠ 47)
def keyB (l : List UInt8) : Bool := decide (1 ≤ l.length) && decide (l.length ≤ 64) && Lib.validD l && l.all keyByte
/-- Where a rune begins with a byte from 128 on, all its bytes are such. -/
theorem decodeN_high {n b0 b1 b2 b3 : Nat} (h0 : 128 ≤ b0) (hn : 1 ≤ n) : 128 ≤ (Lib.decodeN n b0 b1 b2 b3).1 ∧ 1 ≤ (Lib.decodeN n b0 b1 b2 b3).2 ∧ (Lib.decodeN n b0 b1 b2 b3).2 ≤ n ∧ (2 ≤ (Lib.decodeN n b0 b1 b2 b3).2 → 128 ≤ b1) ∧ (3 ≤ (Lib.decodeN n b0 b1 b2 b3).2 → 128 ≤ b2) ∧ (4 ≤ (Lib.decodeN n b0 b1 b2 b3).2 → 128 ≤ b3) ∧ (Lib.decodeN n b0 b1 b2 b3).2 ≤ 4 := by
  unfold Lib.decodeN
  rw [if_neg (by omega)]
  split
  · split <;> simp only <;> omega
  · split
    · split <;> simp only <;> omega
    · split
      · split <;> simp only <;> omega
      · simp only; omega

theorem all_skip (p : UInt8 → Bool) (hp : ∀ b : UInt8, 128 ≤ b.toNat → p b = true) (s : ByteArray) (pos : Nat) (h : pos < s.size) (h0 : 128 ≤ (s.data.toList.getD pos 0).toNat) :
    (s.data.toList.drop pos).all p = (s.data.toList.drop (pos + (Utf8.decode s pos).2)).all p ∧ pos + (Utf8.decode s pos).2 ≤ s.size ∧ 1 ≤ (Utf8.decode s pos).2 ∧ 128 ≤ (Utf8.decode s pos).1 := by
  have hl : s.data.toList.length = s.size := (Lib.size_eq s).symm
  rw [Lib.decode_N]
  obtain ⟨d0, d1, d2, d3, d4, d5, d6⟩ := decodeN_high (n := s.data.toList.length - pos) (b1 := (s.data.toList.getD (pos + 1) 0).toNat) (b2 := (s.data.toList.getD (pos + 2) 0).toNat) (b3 := (s.data.toList.getD (pos + 3) 0).toNat) h0 (by omega)
  generalize Lib.decodeN (s.data.toList.length - pos) (s.data.toList.getD pos 0).toNat (s.data.toList.getD (pos + 1) 0).toNat (s.data.toList.getD (pos + 2) 0).toNat (s.data.toList.getD (pos + 3) 0).toNat = D at d0 d1 d2 d3 d4 d5 d6
  refine ⟨?_, by omega, d1, d0⟩
  have step : ∀ k, pos + k < s.data.toList.length → 128 ≤ (s.data.toList.getD (pos + k) 0).toNat → (s.data.toList.drop (pos + k)).all p = (s.data.toList.drop (pos + k + 1)).all p := fun k hk hb => by
    rw [List.drop_eq_getElem_cons hk, List.all_cons]
    have : s.data.toList.getD (pos + k) 0 = s.data.toList[pos + k] := by simp [List.getD, List.getElem?_eq_getElem hk]
    rw [this] at hb
    rw [hp _ hb, Bool.true_and]
  have s0 := step 0 (by omega) h0
  simp only [Nat.add_zero] at s0
  rcases (show D.2 = 1 ∨ D.2 = 2 ∨ D.2 = 3 ∨ D.2 = 4 by omega) with e | e | e | e
  · rw [e, s0]
  · rw [e, s0, step 1 (by omega) (d3 (by omega))]
  · rw [e, s0, step 1 (by omega) (d3 (by omega)), step 2 (by omega) (d4 (by omega))]
  · rw [e, s0, step 1 (by omega) (d3 (by omega)), step 2 (by omega) (d4 (by omega)), step 3 (by omega) (d5 (by omega))]
theorem getD_byte (s : ByteArray) (pos : Nat) (h : pos < s.size) : s.data.toList.getD pos 0 = s[pos]'h := by
  have hl : pos < s.data.toList.length := by rw [← Lib.size_eq]; exact h
  simp [List.getD, List.getElem?_eq_getElem hl]
  rfl
theorem all_one (p : UInt8 → Bool) (s : ByteArray) (pos : Nat) (h : pos < s.size) : (s.data.toList.drop pos).all p = (p (s[pos]'h) && (s.data.toList.drop (pos + 1)).all p) := by
  have hl : s.data.toList.length = s.size := (Lib.size_eq s).symm
  rw [List.drop_eq_getElem_cons (by omega), List.all_cons]
  rw [← getD_byte s pos h]
  simp [List.getD, List.getElem?_eq_getElem (show pos < s.data.toList.length by omega)]

theorem ofKey_any (r : Int) (w : World) : Calls Tryz.prog 130 #[.int .i32 r] w fun e w' => e = .returned (.bool (decide (32 ≤ r) && decide (r ≠ 47))) ∧ w' = w := by
  by_cases h1 : 32 ≤ r
  · by_cases h2 : r = 47
    · subst h2
      go_enter Tryz.func130, Tryz.ntmps130
      go_wp2
      go_ret
      exact ⟨rfl, rfl⟩
    · have h3 : (r == 47) = false := by simpa using h2
      have h1d : decide (32 ≤ r) = true := by simpa using h1
      have h2d : decide (r ≠ 47) = true := by simpa using h2
      have h4 : (r != 47) = true := by simpa using h2
      rw [h1d, h2d]
      go_enter Tryz.func130, Tryz.ntmps130
      go_wp2
      go_ret
      exact ⟨rfl, rfl⟩
  · have h1d : decide (32 ≤ r) = false := by simpa using h1
    rw [h1d, Bool.false_and]
    go_enter Tryz.func130, Tryz.ntmps130
    go_wp2
    go_ret
    exact ⟨rfl, rfl⟩

/-- The tables of unicode/utf8, as they are laid. -/
def Tabs (w : World) : Prop := Lib.Utf8Tabs 0 1 w
theorem valid_any (s : ByteArray) (w : World) (hs : s.size ≤ 9223372036854775807) (hT : Tabs w) : Calls Tryz.prog 129 #[.string s] w fun e w' => e = .returned (.bool (Lib.validD s.data.toList)) ∧ Below w.heap.size w w' :=
  Any.utf8_ValidString Tryz.laysValid s w hs hT
theorem Tabs.below {w w' : World} (h : Tabs w) (hb : Below w.heap.size w w') : Tabs w' := Utf8Tabs_below h hb

set_option maxHeartbeats 1000000 in
set_option maxRecDepth 100000 in
theorem key_any (s : ByteArray) (w : World) (hT : Tabs w) : Calls Tryz.prog 91 #[.string s] w fun e w' => e = .returned (.bool (keyB s.data.toList)) ∧ Below w.heap.size w w' := by
  unfold keyB
  rw [← Lib.size_eq]
  by_cases h1 : 1 ≤ s.size
  · by_cases h2 : s.size ≤ 64
    · have hv := valid_any s w (by omega) hT
      generalize hV : Lib.validD s.data.toList = V at hv ⊢
      have d1 : decide (1 ≤ s.size) = true := by simpa using h1
      have d2 : decide (s.size ≤ 64) = true := by simpa using h2
      have e1 : ¬ ((s.size : Int) < 1) := by omega
      have e2 : ¬ ((64 : Int) < (s.size : Int)) := by omega
      rw [d1, d2]
      clear hV
      cases V with
      | false =>
        go_enter Tryz.func91, Tryz.ntmps91
        go_wp2_with (go_at_call 129; refine hv.mono ?_; rintro e w1 ⟨rfl, b1⟩)
        go_ret
        exact ⟨rfl, b1⟩
      | true =>
        obtain ⟨ANS, hANS⟩ : ∃ ANS, ANS = s.data.toList.all keyByte := ⟨_, rfl⟩
        rw [← hANS]
        simp only [Bool.true_and]
        have HA := hide hANS
        clear hANS
        go_enter Tryz.func91, Tryz.ntmps91
        go_wp2_with (go_at_call 129; refine hv.mono ?_; rintro e w1 ⟨rfl, b1⟩)
        have hs1 := b1.size
        go_loopw [4] (fun _ wr => ∃ pos : Nat, pos ≤ s.size ∧ wr.heap[w1.heap.size]? = some (.stringIter s pos) ∧ Below w.heap.size w wr ∧ Hid ((s.data.toList.drop pos).all keyByte = ANS)) (fun _ wr => s.size - wr.iterPos w1.heap.size)
        case atStart =>
          refine ⟨0, Nat.zero_le _, ?_, b1.alloc hs1 _, hide (by simpa using HA.out.symm)⟩
          have := World.iter_heap w1 s 0
          simpa using this
        case round =>
          obtain ⟨pos, hps, hit, hbw, hrest⟩ := hrel
          have hsz : w1.heap.size < wr.heap.size := (Array.getElem?_eq_some_iff.1 hit).1
          by_cases hp : pos < s.size
          · have hnx : ∀ ty, (Instr.next (.pointer (some ⟨w1.heap.size, 0, none⟩)) true ty).run Tryz.prog wr = _ := fun ty => Lib.run_next_any_at wr w1.heap.size s pos ty hit hp
            have hit2 := Lib.iterAt_heap wr w1.heap.size s pos (pos + (Utf8.decode s pos).2) hit
            have hbw2 := Lib.below_iterAt hbw (k := w1.heap.size) (by omega) s (pos + (Utf8.decode s pos).2)
            have hmu : wr.iterPos w1.heap.size = pos := by simp [World.iterPos, hit]
            by_cases ha : (s[pos]'hp).toNat < 128
            · have hdec := decode_ascii s pos hp ha
              have hone := all_one keyByte s pos hp
              have hof := ofKey_any ((s[pos]'hp).toNat : Int) (wr.iterAt w1.heap.size s (pos + 1))
              rw [hdec] at hnx hit2 hbw2
              simp only at hnx hit2 hbw2
              have hkb : (decide ((32 : Int) ≤ ((s[pos]'hp).toNat : Int)) && decide (((s[pos]'hp).toNat : Int) ≠ 47)) = keyByte (s[pos]'hp) := by
                unfold keyByte
                congr 1
                · exact decide_eq_decide.2 (by omega)
                · exact decide_eq_decide.2 (by omega)
              rw [hkb] at hof
              generalize wr.iterAt w1.heap.size s (pos + 1) = W1 at hnx hit2 hbw2 hof
              have HO := hide hone
              generalize ((s[pos]'hp).toNat : Int) = rr at hof hnx
              clear hone hdec hkb ha
              generalize keyByte (s[pos]'hp) = kb at HO hof
              cases kb with
              | true =>
                go_wp2_with (go_at_call 130; refine hof.mono ?_; rintro e w' ⟨rfl, rfl⟩)
                go_roundw
                case rel => exact ⟨pos + 1, by omega, hit2, hbw2, hide (by have := HO.out; rw [Bool.true_and] at this; rw [← this]; exact hrest.out)⟩
                case measure =>
                  have hmu2 : w'.iterPos w1.heap.size = pos + 1 := by simp [World.iterPos, hit2]
                  rw [hmu, hmu2]; omega
              | false =>
                have hE : ANS = false := by rw [← hrest.out, HO.out, Bool.false_and]
                have HE := hide hE
                clear hE
                go_wp2_with (go_at_call 130; refine hof.mono ?_; rintro e w' ⟨rfl, rfl⟩)
                go_ret
                exact ⟨by rw [HE.out]; rfl, hbw2⟩
            · obtain ⟨a1, a2, a3, a4⟩ := all_skip keyByte (fun b hb => by unfold keyByte; simp; omega) s pos hp (by rw [getD_byte s pos hp]; omega)
              have hof := ofKey_any ((Utf8.decode s pos).1 : Int) (wr.iterAt w1.heap.size s (pos + (Utf8.decode s pos).2))
              have hkb : (decide ((32 : Int) ≤ ((Utf8.decode s pos).1 : Int)) && decide (((Utf8.decode s pos).1 : Int) ≠ 47)) = true := by
                simp; omega
              rw [hkb] at hof
              have HS := hide a1
              clear a1 hkb ha
              generalize (Utf8.decode s pos).2 = ww at hnx hit2 hbw2 hof HS a2 a3
              generalize wr.iterAt w1.heap.size s (pos + ww) = W1 at hnx hit2 hbw2 hof
              generalize ((Utf8.decode s pos).1 : Int) = rr at hof hnx
              clear a4
              go_wp2_with (go_at_call 130; refine hof.mono ?_; rintro e w' ⟨rfl, rfl⟩)
              go_roundw
              case rel => exact ⟨pos + ww, a2, hit2, hbw2, hide (by rw [← HS.out]; exact hrest.out)⟩
              case measure =>
                have hmu2 : w'.iterPos w1.heap.size = pos + ww := by simp [World.iterPos, hit2]
                rw [hmu, hmu2]; omega
          · have hnx : ∀ ty, (Instr.next (.pointer (some ⟨w1.heap.size, 0, none⟩)) true ty).run Tryz.prog wr = _ := fun ty => Lib.run_next_end_at wr w1.heap.size s pos ty hit hp
            have hE : ANS = true := by
              rw [← hrest.out, List.drop_eq_nil_of_le (by rw [← Lib.size_eq]; omega)]; rfl
            have HE := hide hE
            clear hE
            go_wp2
            go_ret
            exact ⟨by rw [HE.out]; rfl, hbw⟩
    · have d2 : decide (s.size ≤ 64) = false := by simpa using h2
      have e1 : ¬ ((s.size : Int) < 1) := by omega
      have e2 : (64 : Int) < (s.size : Int) := by omega
      rw [d2, Bool.and_false, Bool.false_and, Bool.false_and]
      go_enter Tryz.func91, Tryz.ntmps91
      go_wp2
      go_ret
      exact ⟨rfl, Below.refl _ _⟩
  · have d1 : decide (1 ≤ s.size) = false := by simpa using h1
    have e1 : (s.size : Int) < 1 := by omega
    rw [d1, Bool.false_and, Bool.false_and, Bool.false_and]
    go_enter Tryz.func91, Tryz.ntmps91
    go_wp2
    go_ret
    exact ⟨rfl, Below.refl _ _⟩
end Go.Proofs.YtpepgoelnagoaaaGreatDoor
namespace Go.Proofs.YtpepgoelnagoaaaGreatDoor
open Go.RowKit Go.Shelf
set_option linter.unusedSimpArgs false

def cut47 : List UInt8 → List UInt8 × List UInt8 × Bool
  | [] => ([], [], false)
  | b :: t => if b = 47 then ([], t, true) else (b :: (cut47 t).1, (cut47 t).2.1, (cut47 t).2.2)
theorem cut47_index (l : List UInt8) : (Lib.indexByte l 47 = -1 ∧ cut47 l = (l, [], false)) ∨ ∃ n : Nat, Lib.indexByte l 47 = (n : Int) ∧ n < l.length ∧ cut47 l = (l.take n, l.drop (n + 1), true) := by
  induction l with
  | nil => exact .inl ⟨rfl, rfl⟩
  | cons b t ih =>
    rw [Lib.indexByte, cut47]
    by_cases hb : b = 47
    · subst hb
      exact .inr ⟨0, by simp, by simp, by simp⟩
    · rw [if_neg hb, if_neg (by simpa using hb)]
      rcases ih with ⟨h1, h2⟩ | ⟨n, h1, h2, h3⟩
      · refine .inl ⟨by rw [h1]; rfl, by rw [h2]⟩
      · refine .inr ⟨n + 1, ?_, by simpa using h2, by rw [h3]; simp⟩
        rw [h1, if_neg (by rw [beq_iff_eq]; omega)]
        rfl
theorem cut47_length (l : List UInt8) : (cut47 l).1.length ≤ l.length ∧ (cut47 l).2.1.length ≤ l.length := by
  rcases cut47_index l with ⟨_, h⟩ | ⟨n, _, _, h⟩ <;> rw [h] <;> simp <;> omega

/-- What Cut answers. -/
def cutE (l : List UInt8) : Value := .tuple #[.string ⟨(cut47 l).1.toArray⟩, .string ⟨(cut47 l).2.1.toArray⟩, .bool (cut47 l).2.2]
theorem ext_take (s : ByteArray) (n : Nat) : s.extract 0 n = ⟨(s.data.toList.take n).toArray⟩ := by
  apply ByteArray.ext
  apply Array.toList_inj.1
  simp [ByteArray.data_extract]
theorem ext_drop (s : ByteArray) (n : Nat) : s.extract n s.size = ⟨(s.data.toList.drop n).toArray⟩ := by
  apply ByteArray.ext
  apply Array.toList_inj.1
  rw [Lib.ext_list]

set_option maxHeartbeats 1000000 in
set_option maxRecDepth 100000 in
theorem liteCut_any (s : ByteArray) (w : World) (hs : s.size ≤ 1000000) : Calls Tryz.prog 148 #[.string s, .string { data := #[47] }] w fun e w' => e = .returned (cutE s.data.toList) ∧ ∃ n, w' = w.drewN n := by
  have hl : s.data.toList.length = s.size := (Lib.size_eq s).symm
  have hi := Tryz.stringslite_Index_one s 47 w
  unfold cutE
  rcases cut47_index s.data.toList with ⟨h1, h2⟩ | ⟨n, h1, h2, h3⟩
  · rw [h2]
    rw [h1] at hi
    have e0 : (⟨s.data.toList.toArray⟩ : ByteArray) = s := by apply ByteArray.ext; simp
    simp only [e0]
    go_enter Tryz.func148, Tryz.ntmps148
    go_wp2_with (go_at_call 178; refine hi.mono ?_; rintro e w' ⟨rfl, rfl⟩)
    go_ret3
    exact ⟨rfl, 0, rfl⟩
  · rw [h3]
    rw [h1] at hi
    simp only [← ext_take, ← ext_drop]
    have a1 : (0 : Int) ≤ (n : Int) := by omega
    have a2 : (n : Int) ≤ (s.size : Int) := by omega
    have a3 : (n : Int) + 1 ≤ (s.size : Int) := by omega
    have a4 : (0 : Int) ≤ (n : Int) + 1 := by omega
    clear h1 h3
    go_enter Tryz.func148, Tryz.ntmps148
    go_wp2_with (go_at_call 178; refine hi.mono ?_; rintro e w' ⟨rfl, rfl⟩)
    go_quiet (fail)
    go_wp2
    go_ret3
    exact ⟨rfl, _, rfl⟩
theorem cut_any (s : ByteArray) (w : World) (hs : s.size ≤ 1000000) : Calls Tryz.prog 118 #[.string s, .string { data := #[47] }] w fun e w' => e = .returned (cutE s.data.toList) ∧ ∃ n, w' = w.drewN n := by
  have h := liteCut_any s w hs
  unfold cutE at h ⊢
  generalize cut47 s.data.toList = C at h ⊢
  obtain ⟨k, r, m⟩ := C
  simp only at h ⊢
  go_enter Tryz.func118, Tryz.ntmps118
  go_wp2_with (go_at_call 148; refine h.mono ?_; rintro e w' ⟨rfl, n, rfl⟩)
  go_ret3
  exact ⟨rfl, n, rfl⟩

/-- The slice value v owns the texts L, in a block from B on. -/
def Os (w : World) (B : Nat) (v : Value) (L : List ByteArray) : Prop := w.ownsRow B 9 1 v L.length (L.map Value.string)
theorem Os.shape {w : World} {B : Nat} {v : Value} {L : List ByteArray} (h : Os w B v L) : ∃ ao c, v = .slice ao L.length c ∧ Rs w ao L ∧ (∀ a, ao = some a → B ≤ a.block ∧ a.block < w.heap.size) ∧ (ao = none → c = 0) ∧ L.length ≤ c := by
  have hlt := World.ownsRow.lt h
  have hcells := fun g => World.ownsRow.cells h (g := g)
  rcases h.2 with ⟨rfl, hn⟩ | ⟨g, cap, cur, rfl, hb, hg, hnc, rest⟩
  · exact ⟨none, 0, by rw [hn], ⟨fun _ => List.eq_nil_of_length_eq_zero hn, by simp⟩, by simp, fun _ => rfl, by omega⟩
  · refine ⟨some ⟨g, 0, none⟩, cap, rfl, ⟨by simp, ?_⟩, ?_, by simp, hnc⟩
    · intro a ha j s hj
      cases ha
      exact hcells g rfl j (.string s) (by rw [List.getElem?_map, hj]; rfl)
    · intro a ha
      cases ha
      exact hlt g rfl
theorem Os.only {w w' : World} {B : Nat} {v : Value} {L : List ByteArray} {D : Nat → Prop} (h : Os w B v L) (ho : Only D w w') (hv : ∀ k, v.ownBlock = some k → ¬ D k) : Os w' B v L := ho.row h hv
theorem Os.below {w w' : World} {B : Nat} {v : Value} {L : List ByteArray} (h : Os w B v L) (hb : Below w.heap.size w w') : Os w' B v L := h.only (Only.ofBelow hb) (fun _ _ d => d.elim)
theorem Os.nil (w : World) (B : Nat) : Os w B (.slice none 0 0) [] := World.ownsRow_nil _ _ _ _
theorem Tryz.info9 : (Tryz.prog.info? 9).map (fun i => (i.zero, i.size, i.bytes)) = some (some (.string ⟨#[]⟩), 1, 16) := by kernel_rfl

def keysOf (l : List (List UInt8)) : List ByteArray := l.map (fun k => ⟨k.toArray⟩)
def splitGo : Nat → List (List UInt8) → List UInt8 → Option (List (List UInt8))
  | 0, _, _ => none
  | n + 1, acc, rest => if acc.length = 6 ∨ keyB (cut47 rest).1 = false then none else if (cut47 rest).2.2 then splitGo n (acc ++ [(cut47 rest).1]) (cut47 rest).2.1 else some (acc ++ [(cut47 rest).1])
def splitB (l : List UInt8) : Option (List (List UInt8)) := if Lib.hasPrefix l [47] then (if l.drop 1 = [] then some [] else splitGo 8 [] (l.drop 1)) else none

/-- What Split answers. -/
def SplitE (w w' : World) (r : Option (List (List UInt8))) (e : Ending) : Prop :=
  (r = none ∧ e = .returned (.tuple #[.slice none 0 0, .int .i64 4])) ∨ ∃ L v, r = some L ∧ e = .returned (.tuple #[v, .int .i64 0]) ∧ Os w' w.heap.size v (keysOf L)
end Go.Proofs.YtpepgoelnagoaaaGreatDoor
