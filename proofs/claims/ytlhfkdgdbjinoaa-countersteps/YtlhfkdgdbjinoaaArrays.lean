/-
  ARRAYS BY VALUE AND BLOCKS OF CELLS: a whole array out of a block, into a block, handed back; cells that lie in a block under stores and under calls. It names no function and no type of the program.
-/
import Derived.Test.YtlhfkdgdbjinoaaKit
import Derived.Deep.WholeRow
import Derived.Deep.MidRow
import Derived.Laws.ResultCell
namespace Go.Proofs.Ytlhfkdgdbjinoaa
open Go.RowKit

theorem below_setCells {B : Nat} {a : World} {b : Nat} (hb : B ≤ b) : ∀ (vs : List Value) (o : Nat) {w : World}, Below B a w → Below B a (w.setCells b o vs)
  | [], _, _, h => h
  | v :: r, o, w, h => by rw [World.setCells]; exact below_setCells hb r (o + 1) (h.setCell hb v)
theorem results_cell {fn : Func} {p : Tmp} {ty : TypeId} (h : fn.results = #[.cell p ty]) (tmps : Array Value) (P : Program) (w : World) :
    (results fn tmps).run P w = ((asAddr (tmps.getD p undef)).run P w).andThen fun a w₁ => (loadVar ty a).run P w₁ := by
  simp only [results, h]
  simp [Sem.run_bind, Result.andThen]

section
variable {P : Program}
theorem rangeAt_new (w : World) (cs : List Value) (t : TypeId) : (w.alloc (.cells cs.toArray t)).rangeAt w.heap.size 0 cs := fun j v hv => by
  rw [cell_of_row _ _ (0 + j) cs.toArray t (0, 0) (heap_alloc_last w _), Nat.zero_add]
  simpa using hv
theorem there_new (w : World) (cs : List Value) (t : TypeId) : (w.alloc (.cells cs.toArray t)).there w.heap.size 0 cs.length := fun j hj => by
  refine ⟨World.rangeAt.isSome (rangeAt_new w cs t) j hj, ?_⟩
  simp [go_sem]
/-- A whole table out of a block. -/
theorem wpList_load_tab {ops : Array Oper} {rest : List Oper} {op : Oper} {a : Act} {w : World} {Q : Exit → Act → World → Prop} (ty : TypeId) (x : Operand) (b n : Nat) (cs : List Value) (hgd : op.guard = none) (ho : op.op = .load ty x)
    (hx : a.eval x = .pointer (some ⟨b, 0, none⟩)) {e : TypeId} {m : Nat} (hu : P.underlying ty = some (.array m e)) (hi : (P.info? ty).map (·.size) = some n) (hn : cs.length = n) (hc : w.rangeAt b 0 cs)
    (h : wpList P ops Q rest (a.put op.dst (.agg cs.toArray)) w) : wpList P ops Q (op :: rest) a w :=
  wpList_load_mid hgd ty x ho b 0 hx cs _ hc hu rfl (by rw [hi, hn]) h
/-- A whole table into a block. -/
theorem wpList_store_tab {ops : Array Oper} {rest : List Oper} {op : Oper} {a : Act} {w : World} {Q : Exit → Act → World → Prop} (ty : TypeId) (x y : Operand) (b n : Nat) (cs : List Value) (hgd : op.guard = none) (hdn : op.dst = none) (ho : op.op = .store ty x y)
    (hx : a.eval x = .pointer (some ⟨b, 0, none⟩)) (hy : a.eval y = .agg cs.toArray) (hi : (P.info? ty).map (·.size) = some n) (hn : cs.length = n) (ht : w.there b 0 n) (h1 : ∀ v ∈ cs, v.oneCell' = true)
    (h : wpList P ops Q rest a (w.setCells b 0 cs)) : wpList P ops Q (op :: rest) a w :=
  wpList_store_mid hgd ty x y ho b 0 cs.toArray hx hy (by rw [List.size_toArray, hn]; exact ht) (by rw [hi, List.size_toArray, hn]) (all_oneCell_toArray h1) (by rw [hdn]; exact h)
/-- A table that is handed back. -/
theorem ret_tab {fn : Func} {p : Tmp} {ty : TypeId} (b n : Nat) (cs : List Value) {R : Ending → World → Prop} {a : Act} {w : World} (h : fn.results = #[.cell p ty]) (hp : a.tmps.getD p undef = .pointer (some ⟨b, 0, none⟩))
    {e : TypeId} {m : Nat} (hu : P.underlying ty = some (.array m e)) (hi : (P.info? ty).map (·.size) = some n) (hn : cs.length = n) (hc : w.rangeAt b 0 cs) (hd : a.defers = [])
    (hR : R (.returned (.agg cs.toArray)) w) : bodyPost P fn R .ret a w := by
  refine bodyPost_ret (v := .agg cs.toArray) ?_ hd hR
  rw [results_cell h, hp]
  have := run_loadVar_mid (P := P) w b 0 ty cs _ hc hu rfl (by rw [hi, hn])
  simp [asAddr, Result.andThen, this]
end

theorem rangeAt_set {w : World} {b : Nat} {cs : List Value} (h : w.rangeAt b 0 cs) {k : Nat} (hk : k < cs.length) (v : Value) : (w.setCell ⟨b, k, none⟩ v).rangeAt b 0 (cs.set k v) := fun j u hu => by
  rw [List.getElem?_set] at hu
  by_cases e : k = j
  · subst e
    rw [if_pos rfl, if_pos hk] at hu
    cases hu
    rw [Nat.zero_add]
    have := h k _ (List.getElem?_eq_getElem hk)
    rw [Nat.zero_add] at this
    exact World.cell?_setCell_same _ _ _ this
  · rw [if_neg e] at hu
    rw [World.cell?_setCell_other _ _ _ _ (by intro hc; simp at hc; done)]
    exact h j u hu
theorem rangeAt_set_other {w : World} {b c : Nat} {cs : List Value} (h : w.rangeAt b 0 cs) (k : Nat) (v : Value) (hne : c ≠ b) : (w.setCell ⟨c, k, none⟩ v).rangeAt b 0 cs := fun j u hu => by
  rw [World.cell?_setCell_other _ _ _ _ (by intro hc; simp at hc; done)]
  exact h j u hu
theorem there_set {w : World} {b c n : Nat} (h : w.there b 0 n) (k : Nat) (v : Value) : (w.setCell ⟨c, k, none⟩ v).there b 0 n := by
  have := World.there_setCells h c k [v]
  simpa [World.setCells] using this
theorem rangeAt_below {B : Nat} {w w' : World} {b : Nat} {cs : List Value} (h : w.rangeAt b 0 cs) (hb : Below B w w') (hB : b < B) : w'.rangeAt b 0 cs := fun j u hu => by
  rw [hb.cell (p := ⟨b, 0 + j, none⟩) hB]; exact h j u hu
theorem there_below {B : Nat} {w w' : World} {b n : Nat} (h : w.there b 0 n) (hb : Below B w w') (hB : b < B) : w'.there b 0 n := fun j hj => by
  rw [hb.cell (p := ⟨b, 0 + j, none⟩) hB, hb.frozen (p := ⟨b, 0 + j, none⟩) hB]; exact h j hj
theorem rangeAt_cell {w : World} {b : Nat} {cs : List Value} (h : w.rangeAt b 0 cs) {k : Nat} {v : Value} (hv : cs[k]? = some v) : w.cell? ⟨b, k, none⟩ = some v := by
  have := h k v hv
  rwa [Nat.zero_add] at this
theorem there_free {w : World} {b n : Nat} (h : w.there b 0 n) {k : Nat} (hk : k < n) : w.frozen? ⟨b, k, none⟩ = false := by
  have := (h k hk).2
  rwa [Nat.zero_add] at this
/-- A table into the block that was made last. -/
theorem wpList_store_new {P : Program} {ops : Array Oper} {rest : List Oper} {op : Oper} {a : Act} {W : World} {c : Array Value} {Q : Exit → Act → World → Prop} (ty : TypeId) (x y : Operand) (b n : Nat) (cs : List Value) (hgd : op.guard = none) (hdn : op.dst = none) (ho : op.op = .store ty x y)
    (hx : a.eval x = .pointer (some ⟨b, 0, none⟩)) (hy : a.eval y = .agg cs.toArray) (hi : (P.info? ty).map (·.size) = some n) (hn : cs.length = n) (hc : c.size = n) (hb : W.heap.size = b) (h1 : ∀ v ∈ cs, v.oneCell' = true)
    (h : wpList P ops Q rest a (W.alloc (.cells cs.toArray ty))) : wpList P ops Q (op :: rest) a (W.alloc (.cells c ty)) := by
  subst hb
  refine wpList_plain hgd fun K hK => ?_
  unfold Oper.wp execOp
  simp only [ho, hx, hy]
  rw [Sem.run_bind, run_storeAt_new W ty c cs.toArray (by rw [hi, List.size_toArray, hn]) (by rw [hc, List.size_toArray, hn]) (all_oneCell_toArray h1)]
  show K (a.put op.dst undef) _
  rw [hdn]
  exact hK _ _ h
theorem grown_setCell (w : World) (a : Addr) (v : Value) : w.grownBy (w.setCell a v) (some a.block) :=
  ⟨rfl, rfl, rfl, by simp, fun k _ hk => Below.heap_setCell w a v k (by intro e; subst e; exact hk rfl)⟩
theorem grown_trans {w w1 w2 : World} {row : Option Nat} (h1 : w.grownBy w1 row) (h2 : w1.grownBy w2 row) : w.grownBy w2 row :=
  ⟨h2.os.trans h1.os, h2.tape.trans h1.tape, h2.output.trans h1.output, Nat.le_trans h1.size h2.size, fun k hk hne => (h2.block k (Nat.lt_of_lt_of_le hk h1.size) hne).trans (h1.block k hk hne)⟩
theorem grown_setCells (b : Nat) : ∀ (vs : List Value) (o : Nat) (w : World), w.grownBy (w.setCells b o vs) (some b)
  | [], _, w => World.grownBy.refl w _
  | v :: r, o, w => by rw [World.setCells]; exact grown_trans (grown_setCell w ⟨b, o, none⟩ v) (grown_setCells b r (o + 1) _)
/-- A whole table into a block: the world behind it by what it is good for. -/
theorem wpList_store_own {P : Program} {ops : Array Oper} {rest : List Oper} {op : Oper} {a : Act} {w : World} {Q : Exit → Act → World → Prop} (ty : TypeId) (x y : Operand) (b n : Nat) (cs : List Value) (hgd : op.guard = none) (hdn : op.dst = none) (ho : op.op = .store ty x y)
    (hx : a.eval x = .pointer (some ⟨b, 0, none⟩)) (hy : a.eval y = .agg cs.toArray) (hi : (P.info? ty).map (·.size) = some n) (hn : cs.length = n) (ht : w.there b 0 n) (h1 : ∀ v ∈ cs, v.oneCell' = true)
    (h : ∀ w', w.grownBy w' (some b) → w'.rangeAt b 0 cs → w'.there b 0 n → wpList P ops Q rest a w') : wpList P ops Q (op :: rest) a w :=
  wpList_store_tab ty x y b n cs hgd hdn ho hx hy hi hn ht h1
    (h _ (grown_setCells b cs 0 w) (World.rangeAt_setCells_same _ _ _ _ (by rw [hn]; exact ht)) (World.there_setCells ht b 0 cs))

/-- An operation whose guard says yes is as one without a guard. -/
theorem wpList_unguard {P : Program} {ops : Array Oper} {rest : List Oper} {o : Oper} {a : Act} {w : World} {Q : Exit → Act → World → Prop} (hw : Region.wanted o (yielded ops a.tmps) = true)
    (h : wpList P ops Q ({ o with guard := none } :: rest) a w) : wpList P ops Q (o :: rest) a w := by
  unfold wpList at h ⊢
  rw [if_pos (show Region.wanted { o with guard := none } (yielded ops a.tmps) = true from rfl)] at h
  rw [if_pos hw]
  exact h
theorem below_drewN {B : Nat} {a w : World} (h : Below B a w) (n : Nat) : Below B a (w.drewN n) := ⟨h.os, h.tape, h.output, h.size, h.block⟩
theorem below_undrew0 {a w' : World} (h : Below a.drew.heap.size a.drew w') : Below a.heap.size a w' := ⟨h.os, h.tape, h.output, h.size, h.block⟩
end Go.Proofs.Ytlhfkdgdbjinoaa
