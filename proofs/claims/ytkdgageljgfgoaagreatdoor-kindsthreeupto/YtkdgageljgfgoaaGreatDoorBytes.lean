/-
  ARRAYS BY VALUE AND BLOCKS OF CELLS: a whole array out of a block, into a block, handed back; cells that lie in a block under stores and under calls. It names no function and no type of the program.
  BYTES: bytes that can be read, one by one, in part, as strings; slices of slices; a byte of what is owned is written; literals. 61 stands for the type of slices of bytes; 5 and 9 are those of bytes and of strings.
-/
import Derived.Test.YtkdgageljgfgoaaGreatDoorFrames
import Derived.Deep.WholeRow
import Derived.Deep.MidRow
import Derived.Laws.ResultCell
import Derived.Test.YtkdgageljgfgoaaGreatDoorRows
import Derived.Lib.SlBytesConst
import Derived.Laws.BitsAllLaws
namespace Go.Proofs.YtkdgageljgfgoaaGreatDoor
open Go.RowKit

theorem below_setCells {B : Nat} {a : World} {b : Nat} (hb : B ≤ b) : ∀ (vs : List Value) (o : Nat) {w : World}, Below B a w → Below B a (w.setCells b o vs)
  | [], _, _, h => h
  | v :: r, o, w, h => by rw [World.setCells]; exact below_setCells hb r (o + 1) (h.setCell hb v)
theorem results_cell {fn : Func} {p : Tmp} {ty : TypeId} (h : fn.results = #[.cell p ty]) (tmps : Array Value) (P : Program) (w : World) :
    (results fn tmps).run P w = ((asAddr (tmps.getD p undef)).run P w).andThen fun a w₁ => (loadVar ty a).run P w₁ := by
  simp only [results, h]
  simp [Sem.run_bind, Result.andThen]

section
variable {P : Program}
theorem rangeAt_new (w : World) (cs : List Value) (t : TypeId) : (w.alloc (.cells cs.toArray t)).rangeAt w.heap.size 0 cs := fun j v hv => by
  rw [cell_of_row _ _ (0 + j) cs.toArray t (0, 0) (heap_alloc_last w _), Nat.zero_add]
  simpa using hv
theorem there_new (w : World) (cs : List Value) (t : TypeId) : (w.alloc (.cells cs.toArray t)).there w.heap.size 0 cs.length := fun j hj => by
  refine ⟨World.rangeAt.isSome (rangeAt_new w cs t) j hj, ?_⟩
  simp [go_sem]
/-- A whole table out of a block. -/
theorem wpList_load_tab {ops : Array Oper} {rest : List Oper} {op : Oper} {a : Act} {w : World} {Q : Exit → Act → World → Prop} (ty : TypeId) (x : Operand) (b n : Nat) (cs : List Value) (hgd : op.guard = none) (ho : op.op = .load ty x)
    (hx : a.eval x = .pointer (some ⟨b, 0, none⟩)) {e : TypeId} {m : Nat} (hu : P.underlying ty = some (.array m e)) (hi : (P.info? ty).map (·.size) = some n) (hn : cs.length = n) (hc : w.rangeAt b 0 cs)
    (h : wpList P ops Q rest (a.put op.dst (.agg cs.toArray)) w) : wpList P ops Q (op :: rest) a w :=
  wpList_load_mid hgd ty x ho b 0 hx cs _ hc hu rfl (by rw [hi, hn]) h
/-- A whole table into a block. -/
theorem wpList_store_tab {ops : Array Oper} {rest : List Oper} {op : Oper} {a : Act} {w : World} {Q : Exit → Act → World → Prop} (ty : TypeId) (x y : Operand) (b n : Nat) (cs : List Value) (hgd : op.guard = none) (hdn : op.dst = none) (ho : op.op = .store ty x y)
    (hx : a.eval x = .pointer (some ⟨b, 0, none⟩)) (hy : a.eval y = .agg cs.toArray) (hi : (P.info? ty).map (·.size) = some n) (hn : cs.length = n) (ht : w.there b 0 n) (h1 : ∀ v ∈ cs, v.oneCell' = true)
    (h : wpList P ops Q rest a (w.setCells b 0 cs)) : wpList P ops Q (op :: rest) a w :=
  wpList_store_mid hgd ty x y ho b 0 cs.toArray hx hy (by rw [List.size_toArray, hn]; exact ht) (by rw [hi, List.size_toArray, hn]) (all_oneCell_toArray h1) (by rw [hdn]; exact h)
/-- A table that is handed back. -/
theorem ret_tab {fn : Func} {p : Tmp} {ty : TypeId} (b n : Nat) (cs : List Value) {R : Ending → World → Prop} {a : Act} {w : World} (h : fn.results = #[.cell p ty]) (hp : a.tmps.getD p undef = .pointer (some ⟨b, 0, none⟩))
    {e : TypeId} {m : Nat} (hu : P.underlying ty = some (.array m e)) (hi : (P.info? ty).map (·.size) = some n) (hn : cs.length = n) (hc : w.rangeAt b 0 cs) (hd : a.defers = [])
    (hR : R (.returned (.agg cs.toArray)) w) : bodyPost P fn R .ret a w := by
  refine bodyPost_ret (v := .agg cs.toArray) ?_ hd hR
  rw [results_cell h, hp]
  have := run_loadVar_mid (P := P) w b 0 ty cs _ hc hu rfl (by rw [hi, hn])
  simp [asAddr, Result.andThen, this]
end

theorem rangeAt_set {w : World} {b : Nat} {cs : List Value} (h : w.rangeAt b 0 cs) {k : Nat} (hk : k < cs.length) (v : Value) : (w.setCell ⟨b, k, none⟩ v).rangeAt b 0 (cs.set k v) := fun j u hu => by
  rw [List.getElem?_set] at hu
  by_cases e : k = j
  · subst e
    rw [if_pos rfl, if_pos hk] at hu
    cases hu
    rw [Nat.zero_add]
    have := h k _ (List.getElem?_eq_getElem hk)
    rw [Nat.zero_add] at this
    exact World.cell?_setCell_same _ _ _ this
  · rw [if_neg e] at hu
    rw [World.cell?_setCell_other _ _ _ _ (by intro hc; simp at hc; done)]
    exact h j u hu
theorem rangeAt_set_other {w : World} {b c : Nat} {cs : List Value} (h : w.rangeAt b 0 cs) (k : Nat) (v : Value) (hne : c ≠ b) : (w.setCell ⟨c, k, none⟩ v).rangeAt b 0 cs := fun j u hu => by
  rw [World.cell?_setCell_other _ _ _ _ (by intro hc; simp at hc; done)]
  exact h j u hu
theorem there_set {w : World} {b c n : Nat} (h : w.there b 0 n) (k : Nat) (v : Value) : (w.setCell ⟨c, k, none⟩ v).there b 0 n := by
  have := World.there_setCells h c k [v]
  simpa [World.setCells] using this
theorem rangeAt_below {B : Nat} {w w' : World} {b : Nat} {cs : List Value} (h : w.rangeAt b 0 cs) (hb : Below B w w') (hB : b < B) : w'.rangeAt b 0 cs := fun j u hu => by
  rw [hb.cell (p := ⟨b, 0 + j, none⟩) hB]; exact h j u hu
theorem there_below {B : Nat} {w w' : World} {b n : Nat} (h : w.there b 0 n) (hb : Below B w w') (hB : b < B) : w'.there b 0 n := fun j hj => by
  rw [hb.cell (p := ⟨b, 0 + j, none⟩) hB, hb.frozen (p := ⟨b, 0 + j, none⟩) hB]; exact h j hj
theorem rangeAt_cell {w : World} {b : Nat} {cs : List Value} (h : w.rangeAt b 0 cs) {k : Nat} {v : Value} (hv : cs[k]? = some v) : w.cell? ⟨b, k, none⟩ = some v := by
  have := h k v hv
  rwa [Nat.zero_add] at this
theorem there_free {w : World} {b n : Nat} (h : w.there b 0 n) {k : Nat} (hk : k < n) : w.frozen? ⟨b, k, none⟩ = false := by
  have := (h k hk).2
  rwa [Nat.zero_add] at this
/-- A table into the block that was made last. -/
theorem wpList_store_new {P : Program} {ops : Array Oper} {rest : List Oper} {op : Oper} {a : Act} {W : World} {c : Array Value} {Q : Exit → Act → World → Prop} (ty : TypeId) (x y : Operand) (b n : Nat) (cs : List Value) (hgd : op.guard = none) (hdn : op.dst = none) (ho : op.op = .store ty x y)
    (hx : a.eval x = .pointer (some ⟨b, 0, none⟩)) (hy : a.eval y = .agg cs.toArray) (hi : (P.info? ty).map (·.size) = some n) (hn : cs.length = n) (hc : c.size = n) (hb : W.heap.size = b) (h1 : ∀ v ∈ cs, v.oneCell' = true)
    (h : wpList P ops Q rest a (W.alloc (.cells cs.toArray ty))) : wpList P ops Q (op :: rest) a (W.alloc (.cells c ty)) := by
  subst hb
  refine wpList_plain hgd fun K hK => ?_
  unfold Oper.wp execOp
  simp only [ho, hx, hy]
  rw [Sem.run_bind, run_storeAt_new W ty c cs.toArray (by rw [hi, List.size_toArray, hn]) (by rw [hc, List.size_toArray, hn]) (all_oneCell_toArray h1)]
  show K (a.put op.dst undef) _
  rw [hdn]
  exact hK _ _ h
theorem grown_setCell (w : World) (a : Addr) (v : Value) : w.grownBy (w.setCell a v) (some a.block) :=
  ⟨rfl, rfl, rfl, by simp, fun k _ hk => Below.heap_setCell w a v k (by intro e; subst e; exact hk rfl)⟩
theorem grown_trans {w w1 w2 : World} {row : Option Nat} (h1 : w.grownBy w1 row) (h2 : w1.grownBy w2 row) : w.grownBy w2 row :=
  ⟨h2.os.trans h1.os, h2.tape.trans h1.tape, h2.output.trans h1.output, Nat.le_trans h1.size h2.size, fun k hk hne => (h2.block k (Nat.lt_of_lt_of_le hk h1.size) hne).trans (h1.block k hk hne)⟩
theorem grown_setCells (b : Nat) : ∀ (vs : List Value) (o : Nat) (w : World), w.grownBy (w.setCells b o vs) (some b)
  | [], _, w => World.grownBy.refl w _
  | v :: r, o, w => by rw [World.setCells]; exact grown_trans (grown_setCell w ⟨b, o, none⟩ v) (grown_setCells b r (o + 1) _)
/-- A whole table into a block: the world behind it by what it is good for. -/
theorem wpList_store_own {P : Program} {ops : Array Oper} {rest : List Oper} {op : Oper} {a : Act} {w : World} {Q : Exit → Act → World → Prop} (ty : TypeId) (x y : Operand) (b n : Nat) (cs : List Value) (hgd : op.guard = none) (hdn : op.dst = none) (ho : op.op = .store ty x y)
    (hx : a.eval x = .pointer (some ⟨b, 0, none⟩)) (hy : a.eval y = .agg cs.toArray) (hi : (P.info? ty).map (·.size) = some n) (hn : cs.length = n) (ht : w.there b 0 n) (h1 : ∀ v ∈ cs, v.oneCell' = true)
    (h : ∀ w', w.grownBy w' (some b) → w'.rangeAt b 0 cs → w'.there b 0 n → wpList P ops Q rest a w') : wpList P ops Q (op :: rest) a w :=
  wpList_store_tab ty x y b n cs hgd hdn ho hx hy hi hn ht h1
    (h _ (grown_setCells b cs 0 w) (World.rangeAt_setCells_same _ _ _ _ (by rw [hn]; exact ht)) (World.there_setCells ht b 0 cs))

/-- An operation whose guard says yes is as one without a guard. -/
theorem wpList_unguard {P : Program} {ops : Array Oper} {rest : List Oper} {o : Oper} {a : Act} {w : World} {Q : Exit → Act → World → Prop} (hw : Region.wanted o (yielded ops a.tmps) = true)
    (h : wpList P ops Q ({ o with guard := none } :: rest) a w) : wpList P ops Q (o :: rest) a w := by
  unfold wpList at h ⊢
  rw [if_pos (show Region.wanted { o with guard := none } (yielded ops a.tmps) = true from rfl)] at h
  rw [if_pos hw]
  exact h
theorem below_drewN {B : Nat} {a w : World} (h : Below B a w) (n : Nat) : Below B a (w.drewN n) := ⟨h.os, h.tape, h.output, h.size, h.block⟩
theorem below_undrew0 {a w' : World} (h : Below a.drew.heap.size a.drew w') : Below a.heap.size a w' := ⟨h.os, h.tape, h.output, h.size, h.block⟩
end Go.Proofs.YtkdgageljgfgoaaGreatDoor
namespace Go.Proofs.YtkdgageljgfgoaaGreatDoor
open Go.RowKit

def U8 (l : List Int) : Prop := ∀ y ∈ l, 0 ≤ y ∧ y ≤ 255
theorem U8.take {l : List Int} (h : U8 l) (k : Nat) : U8 (l.take k) := fun y hy => h y (List.mem_of_mem_take hy)
/-- A byte of what can be read. -/
theorem Rd.at {w : World} {ao : Option Addr} {l : List Int} (h : Rd w ao l) {k : Nat} {b : Int} (hb : l[k]? = some b) : ∃ ab off, ao = some ⟨ab, off, none⟩ ∧ w.cell? ⟨ab, off + k, none⟩ = some (.int .u8 b) := by
  cases ao with
  | none => have := h.1 rfl; subst this; simp at hb
  | some a =>
    obtain ⟨ab, off, sp⟩ := a
    have hl : 0 < l.length := by have := (List.getElem?_eq_some_iff.1 hb).1; omega
    have h0 := h.2 _ rfl 0 (.int .u8 l[0]) (by rw [u8s_get, List.getElem?_eq_getElem hl]; rfl)
    simp only [Addr.add, if_true] at h0
    have hs : sp = none := World.cell?_spot h0
    subst hs
    have hk := h.2 _ rfl k (.int .u8 b) (by rw [u8s_get, hb]; rfl)
    rw [add_lit] at hk
    exact ⟨ab, off, rfl, hk⟩
/-- Behind this address lie slices of bytes, each of which can be read. -/
def Pieces (w : World) (ao : Option Addr) (L : List (List Int)) : Prop :=
  (ao = none → L = []) ∧ ∀ a, ao = some a → ∀ j l, L[j]? = some l → ∃ aj cj, w.cell? (a.add j) = some (.slice aj l.length cj) ∧ Rd w aj l ∧ (aj = none → cj = 0)
theorem Pieces.below {w w' : World} {ao : Option Addr} {L : List (List Int)} (h : Pieces w ao L) (hb : Below w.heap.size w w') : Pieces w' ao L :=
  ⟨h.1, fun a ha j l hj => by
    obtain ⟨aj, cj, hc, hr, hn⟩ := h.2 a ha j l hj
    exact ⟨aj, cj, by rw [hb.cell (World.block_lt_of_cell? w _ hc)]; exact hc, hr.below hb, hn⟩⟩
theorem Pieces.at {w : World} {ao : Option Addr} {L : List (List Int)} (h : Pieces w ao L) {k : Nat} {l : List Int} (hl : L[k]? = some l) :
    ∃ ab off aj cj, ao = some ⟨ab, off, none⟩ ∧ w.cell? ⟨ab, off + k, none⟩ = some (.slice aj l.length cj) ∧ Rd w aj l ∧ (aj = none → cj = 0) := by
  cases ao with
  | none => have := h.1 rfl; subst this; simp at hl
  | some a =>
    obtain ⟨ab, off, sp⟩ := a
    have hL : 0 < L.length := by have := (List.getElem?_eq_some_iff.1 hl).1; omega
    obtain ⟨_, _, h0, _⟩ := h.2 _ rfl 0 L[0] (List.getElem?_eq_getElem hL)
    simp only [Addr.add, if_true] at h0
    have hs : sp = none := World.cell?_spot h0
    subst hs
    obtain ⟨aj, cj, hk, hr, hn⟩ := h.2 _ rfl k l hl
    rw [add_lit] at hk
    exact ⟨ab, off, aj, cj, rfl, hk, hr, hn⟩
theorem Pieces.one {w : World} (a1 : Option Addr) (c1 : Nat) (l1 : List Int) (t : TypeId) (h1 : Rd w a1 l1) (n1 : a1 = none → c1 = 0) :
    Pieces (w.alloc (.cells #[.slice a1 l1.length c1] t)) (some ⟨w.heap.size, 0, none⟩) [l1] := by
  have hb : Below w.heap.size w (w.alloc (.cells #[.slice a1 l1.length c1] t)) := (Below.refl _ _).alloc (Nat.le_refl _) _
  refine ⟨by simp, ?_⟩
  intro a ha j l hj
  cases ha
  match j, hj with
  | 0, hj => simp at hj; subst hj; exact ⟨a1, c1, by rw [add_lit]; simp [go_sem], h1.below hb, n1⟩
theorem Pieces.two {w : World} (a1 a2 : Option Addr) (c1 c2 : Nat) (l1 l2 : List Int) (t : TypeId) (h1 : Rd w a1 l1) (h2 : Rd w a2 l2) (n1 : a1 = none → c1 = 0) (n2 : a2 = none → c2 = 0) :
    Pieces (w.alloc (.cells #[.slice a1 l1.length c1, .slice a2 l2.length c2] t)) (some ⟨w.heap.size, 0, none⟩) [l1, l2] := by
  have hb : Below w.heap.size w (w.alloc (.cells #[.slice a1 l1.length c1, .slice a2 l2.length c2] t)) := (Below.refl _ _).alloc (Nat.le_refl _) _
  refine ⟨by simp, ?_⟩
  intro a ha j l hj
  cases ha
  match j, hj with
  | 0, hj => simp at hj; subst hj; exact ⟨a1, c1, by rw [add_lit]; simp [go_sem], h1.below hb, n1⟩
  | 1, hj => simp at hj; subst hj; exact ⟨a2, c2, by rw [add_lit]; simp [go_sem], h2.below hb, n2⟩
theorem flat_snoc (L : List (List Int)) (k : Nat) (l : List Int) (h : L[k]? = some l) : (L.take (k + 1)).flatten = (L.take k).flatten ++ l := by
  obtain ⟨hk, rfl⟩ := List.getElem?_eq_some_iff.1 h
  rw [List.take_succ_eq_append_getElem hk, List.flatten_append]; simp
theorem U8.flat {L : List (List Int)} (h : ∀ l ∈ L, U8 l) (k : Nat) : U8 (L.take k).flatten := by
  intro y hy
  obtain ⟨l, hl, hyl⟩ := List.mem_flatten.1 hy
  exact h l (List.mem_of_mem_take hl) y hyl
theorem flat_take_le (L : List (List Int)) (k : Nat) : (L.take k).flatten.length ≤ L.flatten.length := by
  have h : L.flatten = (L.take k).flatten ++ (L.drop k).flatten := by rw [← List.flatten_append, List.take_append_drop]
  rw [h, List.length_append]; omega
theorem Rd.drewN {w : World} {ao : Option Addr} {l : List Int} (h : Rd w ao l) (n : Nat) : Rd (w.drewN n) ao l := h.below ⟨rfl, rfl, rfl, Nat.le_refl _, fun _ _ => rfl⟩
theorem Pieces.drewN {w : World} {ao : Option Addr} {L : List (List Int)} (h : Pieces w ao L) (n : Nat) : Pieces (w.drewN n) ao L := h.below ⟨rfl, rfl, rfl, Nat.le_refl _, fun _ _ => rfl⟩
theorem Own.cap {e : TypeId} {w : World} {B n cap : Nat} {ao : Option Addr} {l : List Int} (h : Own e w B (.slice ao n cap) l) : l.length ≤ cap ∧ cap ≤ 9223372036854775807 := by
  rcases h.2 with ⟨h1, h2⟩ | ⟨g, c, cur, h1, _, _, h4, h5, _⟩
  · simp only [Value.slice.injEq] at h1; omega
  · simp only [Value.slice.injEq] at h1
    unfold maxLen at h5
    omega
theorem rd_lit (w : World) (l : List Int) (t : TypeId) (fr : Nat × Nat) : Rd (w.alloc (.cells (u8s l).toArray t fr)) (some ⟨w.heap.size, 0, none⟩) l :=
  ⟨by simp, fun a ha j u hj => by
    cases ha
    rw [add_lit, cell_of_row _ _ (0 + j) (u8s l).toArray t fr (heap_alloc_last w _), Nat.zero_add]
    simpa using hj⟩
theorem rd_at {w : World} {B : Nat} (l : List Int) (t : TypeId) (fr : Nat × Nat) (hB : w.heap.size = B) : Rd (w.alloc (.cells (u8s l).toArray t fr)) (some ⟨B, 0, none⟩) l := by
  subst hB; exact rd_lit w l t fr
theorem Rd.alloc {w : World} {ao : Option Addr} {l : List Int} (h : Rd w ao l) (o : Obj) : Rd (w.alloc o) ao l := h.below ((Below.refl _ _).alloc (Nat.le_refl _) _)
theorem U8.lit {l : List Int} (h : l.all (fun y => decide (0 ≤ y) && decide (y ≤ 255)) = true) : U8 l := fun y hy => by
  have := List.all_eq_true.1 h y hy
  simpa using this
/-- A byte of what is owned is written. -/
theorem Own.store {e : TypeId} {w : World} {B n cap k : Nat} {ao : Option Addr} {l : List Int} (h : Own e w B (.slice ao n cap) l) (hk : k < l.length) :
    ∃ g, ao = some ⟨g, 0, none⟩ ∧ w.cell? ⟨g, k, none⟩ = some (.int .u8 (l.getD k 0)) ∧ w.frozen? ⟨g, k, none⟩ = false ∧ B ≤ g ∧ g < w.heap.size ∧
      ∀ x, Own e (w.setCell ⟨g, k, none⟩ (.int .u8 x)) B (.slice ao n cap) (l.set k x) ∧ w.grownBy (w.setCell ⟨g, k, none⟩ (.int .u8 x)) (some g) := by
  have h2 := h.2
  have hb := h.blk
  rcases h2 with ⟨h1, h3⟩ | ⟨g, c, cur, h1, _⟩
  · omega
  · simp only [Value.slice.injEq] at h1
    obtain ⟨rfl, rfl, rfl⟩ := h1
    refine ⟨g, rfl, ?_, World.ownsRow.frozenAt h k, (hb _ rfl).1, (hb _ rfl).2, fun x => ?_⟩
    · rw [World.ownsRow.cellAt h k (by omega), u8s_get, List.getElem?_eq_getElem hk, List.getD_eq_getElem?_getD, List.getElem?_eq_getElem hk]; rfl
    · obtain ⟨r1, r2⟩ := World.ownsRow.stored h k (.int .u8 x)
      refine ⟨?_, r2⟩
      unfold Own
      rw [List.length_set]
      have : u8s (l.set k x) = (u8s l).set k (.int .u8 x) := by simp [u8s, List.map_set]
      rw [this]
      exact r1
theorem U8.getD {l : List Int} (h : U8 l) (q : Nat) : 0 ≤ l.getD q 0 ∧ l.getD q 0 ≤ 255 := by
  rw [List.getD_eq_getElem?_getD]
  cases hq : l[q]? with
  | none => simp
  | some b => exact h b (List.mem_of_getElem? hq)
theorem U8.set {l : List Int} (h : U8 l) (q v : Nat) (hv : v < 256) : U8 (l.set q (v : Int)) := by
  intro y hy
  rcases List.mem_or_eq_of_mem_set hy with h1 | h1
  · exact h y h1
  · rw [h1]; omega
theorem str_back {l : List Int} (h : U8 l) : (strOfNums l).data.toList.map (fun c => (c.toNat : Int)) = l := by
  rw [strOfNums_data, List.map_map]
  have : ∀ n ∈ l, ((fun c : UInt8 => (c.toNat : Int)) ∘ fun n : Int => UInt8.ofNat n.toNat) n = n := fun n hn => by
    have := h n hn
    simp only [Function.comp, UInt8.toNat_ofNat']
    omega
  rw [List.map_congr_left this, List.map_id']
theorem str_ne {l m : List Int} (hl : U8 l) (hm : U8 m) (h : l ≠ m) : ((strOfNums l).toList == (strOfNums m).toList) = false := by
  rw [beq_eq_false_iff_ne]
  intro e
  rw [ByteArray.toList_eq, ByteArray.toList_eq] at e
  exact h (by rw [← str_back hl, ← str_back hm, e])
theorem made_u8 (n : Nat) : (madeCells (Value.int .u8 0).cells (n * 1)).toList = u8s (List.replicate n 0) := by
  rw [Nat.mul_one]
  show (madeCells #[.int .u8 0] n).toList = _
  rw [toList_madeCells_one]
  simp [u8s]
end Go.Proofs.YtkdgageljgfgoaaGreatDoor
