/-
  Parts of rows of elements, elements laid behind elements.
  register: a text that may be (81), a map that may be a register (26).
  ITERATORS THAT LAY BLOCKS OF THEIR OWN AND TURN THEM BETWEEN ROUNDS (they range over another iterator themselves), and the law for a range over one.
  register: All (49), what it goes over (31).
  TEXTS HELD AGAINST EACH OTHER: plainly (cmpB, cmpP), and what the program's and the document's functions answer.
  register: what is gathered over All (86, 88), Elements (27), Texts (44).
  register: what is gathered over All (86, 88).
  MAPS, as the program has them: Take, Split, Join, Make.
  walk: THE SMALL FUNCTIONS: top 135, joined 137, closed 138, cutAt 33.
  walk: stands 74: IS A NODE ONE OF A MAP's?
  walk: closed 138: BOTH SIDES WITHOUT A KEY BETWEEN THEM.
  walk: THE ELEMENTS' RULE: Keep 14.
-/
import Derived.Test.YtkkpdgfllnbigaaGreatDoorMg8
import Derived.Test.YtkkpdgfllnbigaaGreatDoorMg6
import Derived.Scope
import Derived.Test.YtkkpdgfllnbigaaGreatDoorMg5
namespace Go.Proofs.YtkkpdgfllnbigaaGreatDoor
open Go.RowKit Go.Shelf Go.Sort
set_option linter.unusedSimpArgs false
attribute [local go_sem] Oper.semAt_some

abbrev zeroE : Value := .agg #[.int .i64 0, .int .i64 0, .string ⟨#[]⟩, .int .i64 0, .int .i64 0, .string ⟨#[]⟩]
theorem info77 : (Tryz.prog.info? 33).map (fun i => (i.zero, i.size, i.bytes)) = some (some zeroE, 6, 64) := by kernel_rfl
theorem info_of {t : TypeId} {z : Option Value} {n b : Nat} (h : (Tryz.prog.info? t).map (fun i => (i.zero, i.size, i.bytes)) = some (z, n, b)) : ∃ i, Tryz.prog.info? t = some i ∧ i.zero = z ∧ i.size = n ∧ i.bytes = b := by
  cases hi : Tryz.prog.info? t with
  | none => rw [hi] at h; cases h
  | some i => rw [hi] at h; simp only [Option.map_some, Option.some.injEq, Prod.mk.injEq] at h; exact ⟨i, rfl, h.1, h.2.1, h.2.2⟩
/-- Behind this address, if it is one, lie the elements l. -/
def Re (w : World) (ao : Option Addr) (l : List El) : Prop := (ao = none → l = []) ∧ ∀ a, ao = some a → ∀ j u, (flatE l)[j]? = some u → w.cell? (a.add j) = some u
theorem Re.nil (w : World) (ao : Option Addr) : Re w ao [] := ⟨fun _ => rfl, by simp [flatE]⟩
theorem Re.ofRe0 {w : World} {b off : Nat} {l : List El} (h : Re0 w b off l) : Re w (some ⟨b, off, none⟩) l := ⟨by simp, fun a ha j u hj => by cases ha; rw [add_lit]; exact h j u hj⟩
theorem Re.below {w w' : World} {ao : Option Addr} {l : List El} (h : Re w ao l) (hb : Below w.heap.size w w') : Re w' ao l := ⟨h.1, fun a ha j u hj => by
  have := h.2 a ha j u hj
  exact (hb.cell (World.block_lt_of_cell? _ _ this)).trans this⟩
theorem Re.take {w : World} {ao : Option Addr} {l : List El} (h : Re w ao l) (n : Nat) : Re w ao (l.take n) := ⟨fun e => by rw [h.1 e]; simp, fun a ha j u hj => h.2 a ha j u (by
  have : flatE l = flatE (l.take n) ++ flatE (l.drop n) := by rw [← flatE_app, List.take_append_drop]
  rw [this, List.getElem?_append_left (List.getElem?_eq_some_iff.1 hj).1]; exact hj)⟩
theorem Re.drop {w : World} {b off : Nat} {l : List El} (h : Re w (some ⟨b, off, none⟩) l) (n : Nat) (hn : n ≤ l.length) : Re w (some ⟨b, off + n * 6, none⟩) (l.drop n) := ⟨by simp, fun a ha j u hj => by
  cases ha
  have e : flatE l = flatE (l.take n) ++ flatE (l.drop n) := by rw [← flatE_app, List.take_append_drop]
  have e2 : (flatE (l.take n)).length = n * 6 := by rw [flatE_len, List.length_take]; omega
  have := h.2 _ rfl (n * 6 + j) u (by rw [e, List.getElem?_append_right (by omega), e2, Nat.add_sub_cancel_left]; exact hj)
  rw [add_lit] at this ⊢
  rw [Nat.add_assoc]; exact this⟩
theorem exec_ixE {ev : Operand → Value} {x y : Operand} {T : TypeId} {w : World} {b o n c k : Nat} (hx : ev x = .slice (some ⟨b, o, none⟩) n c) (hy : ev y = .int .i64 k) (hk : (k : Int) < (n : Int)) :
    (execOp ev { dst := none, op := .indexAddr 69 x y, type := T, pos := "", after := #[], guard := none }).run Tryz.prog w = .ok (.value (.pointer (some ⟨b, o + k * 6, none⟩))) w := by
  unfold execOp
  simp only [hx, hy]
  go_simp
theorem Re.at {w : World} {ao : Option Addr} {l : List El} (h : Re w ao l) {k : Nat} {x : El} (hx : l[k]? = some x) : ∃ b off, ao = some ⟨b, off, none⟩ ∧ ∀ i v, (encE x)[i]? = some v → w.cell? ⟨b, off + k * 6 + i, none⟩ = some v := by
  cases ao with
  | none => have := h.1 rfl; subst this; simp at hx
  | some a =>
    obtain ⟨b, off, sp⟩ := a
    have hl : 0 < l.length := by have := (List.getElem?_eq_some_iff.1 hx).1; omega
    have h0 := h.2 _ rfl 0 (.int .i64 l[0].1.1) (by have := flatE_get l 0 0 l[0] (List.getElem?_eq_getElem hl) (by omega); rw [Nat.zero_mul, Nat.add_zero] at this; rw [this]; rfl)
    simp only [Addr.add, if_true] at h0
    have hs : sp = none := World.cell?_spot h0
    subst hs
    refine ⟨b, off, rfl, fun i v hi => ?_⟩
    have h6 : i < 6 := by have := (List.getElem?_eq_some_iff.1 hi).1; simpa [encE] using this
    have := h.2 _ rfl (k * 6 + i) v ((flatE_get l k i x hx h6).trans hi)
    rw [add_lit, ← Nat.add_assoc] at this
    exact this
theorem Re.cells {w : World} {ao : Option Addr} {l : List El} (h : Re w ao l) {k : Nat} {x : El} (hx : l[k]? = some x) : ∃ b off, ao = some ⟨b, off, none⟩ ∧ w.cell? ⟨b, off + k * 6, none⟩ = some (.int .i64 x.1.1) ∧ w.cell? ⟨b, off + k * 6 + 1, none⟩ = some (.int .i64 x.1.2.1) ∧ w.cell? ⟨b, off + k * 6 + 2, none⟩ = some (.string x.1.2.2.1) ∧ w.cell? ⟨b, off + k * 6 + 3, none⟩ = some (.int .i64 x.1.2.2.2.1) ∧ w.cell? ⟨b, off + k * 6 + 4, none⟩ = some (.int .i64 x.1.2.2.2.2) ∧ w.cell? ⟨b, off + k * 6 + 5, none⟩ = some (.string x.2) := by
  obtain ⟨b, off, e, hc⟩ := h.at hx
  exact ⟨b, off, e, hc 0 _ rfl, hc 1 _ rfl, hc 2 _ rfl, hc 3 _ rfl, hc 4 _ rfl, hc 5 _ rfl⟩
theorem Oe.re {w : World} {B : Nat} {ao : Option Addr} {n c : Nat} {L : List El} (h : Oe w B (.slice ao n c) L) : Re w ao L := by
  rcases h.shape with ⟨e, rfl⟩ | ⟨g, cap, e, _⟩
  · exact Re.nil _ _
  · cases e; exact Re.ofRe0 h.re0
theorem Oe.form {w : World} {B : Nat} {v : Value} {L : List El} (h : Oe w B v L) : ∃ ao c, v = .slice ao L.length c ∧ Re w ao L ∧ (ao = none → c = 0) ∧ L.length ≤ c ∧ (∀ a, ao = some a → B ≤ a.block ∧ a.block < w.heap.size ∧ a.spot = none) := by
  rcases h.shape with ⟨e, rfl⟩ | ⟨g, cap, e, h1, h2, h3⟩
  · exact ⟨none, 0, e, Re.nil _ _, fun _ => rfl, by simp, by simp⟩
  · subst e; exact ⟨_, _, rfl, h.re, by simp, h3, fun a ha => by cases ha; exact ⟨h1, h2, rfl⟩⟩
theorem Oe.lift {w : World} {B B' : Nat} {v : Value} {L : List El} (h : Oe w B v L) (hB : B' ≤ B) : Oe w B' v L := by
  refine ⟨h.1, ?_⟩
  rcases h.2 with h2 | ⟨g, cap, cur, h1, h2, h3⟩
  · exact .inl h2
  · exact .inr ⟨g, cap, cur, h1, by omega, h3⟩
theorem Oe.alloc {w : World} {B : Nat} {v : Value} {L : List El} (h : Oe w B v L) (o : Obj) : Oe (w.alloc o) B v L := World.ownsRow.alloc h o
/-- One element more on what is owned: 'append(out, x)', where x has been laid at ad. -/
theorem wpList_pushE {w : World} {ops : Array Oper} {rest : List Oper} {o : Oper} {a : Act} {Q : Exit → Act → World → Prop} (hgd : o.guard = none) (s x : Operand)
    (ho : o.op = .call { callee := .builtin .append, args := #[s, x], argTypes := #[69, 69] })
    (B : Nat) (v : Value) (p : List El) (hs : a.eval s = v) (hown : Oe w B v p)
    (b c : Nat) (y : El) (hx : a.eval x = .slice (some ⟨b, 0, none⟩) 1 c) (hcell : w.heap[b]? = some (.cells (encE y).toArray 33 (0, 0)))
    (hbytes : p.length + 1 ≤ 1000000) (hbase : B ≤ w.heap.size)
    (h : ∀ ao' cap' w', Oe w' B (.slice ao' (p.length + 1) cap') (p ++ [y]) → w.grownBy w' v.ownBlock → (ao' = none → cap' = 0) →
      wpList Tryz.prog ops Q rest (a.put o.dst (.slice ao' (p.length + 1) cap')) w') : wpList Tryz.prog ops Q (o :: rest) a w := by
  obtain ⟨i0, hi, hz0, hz1, hz2⟩ := info_of info77
  refine wpList_append_own w hgd s x 69 ho B 33 i0 zeroE 6 64 Tryz.underlying69 hi hz0 hz1 hz2 rfl (by decide) v _ _ hs hown ⟨b, 0, none⟩ 1 c (encE y) hx (by simp [encE]) (fun j u hj => ?_) (fun u hu => flatE_one [y] u (by simpa [flatE] using hu)) (by unfold maxLen; omega) (by omega) hbase ?_
  · rw [add_lit, cell_of_row _ _ (0 + j) (encE y).toArray 33 (0, 0) hcell, Nat.zero_add]; simpa using hj
  · intro v' w' hown' hg _
    have hO : Oe w' B v' (p ++ [y]) := by
      unfold Oe
      rw [flatE_app, List.length_append]
      have : flatE [y] = encE y := by simp [flatE]
      rw [this]; exact hown'
    obtain ⟨ao', cap', rfl, _, hn, _⟩ := hO.form
    rw [List.length_append] at hO ⊢
    exact h ao' cap' w' hO hg hn
theorem below_oe {B : Nat} {w wr w1 : World} {v : Value} {l : List El} (hb : Below B w wr) (hBw : B ≤ wr.heap.size) (hown : Oe wr B v l) (hg : wr.grownBy w1 v.ownBlock) : Below B w w1 :=
  hb.grown hg hBw (fun k hk => by have := (World.ownsRow.lt hown k hk).1; omega)
end Go.Proofs.YtkkpdgfllnbigaaGreatDoor
namespace Go.Proofs.YtkkpdgfllnbigaaGreatDoor
open Go.RowKit Go.Shelf
set_option linter.unusedSimpArgs false
attribute [local go_sem] Oper.semAt_some

abbrev Kv := ByteArray × ByteArray
/-- A stamp's key, a key's stamp. -/
def keyT (s : St) : ByteArray := keyS s.1 s.2.1 s.2.2.1 s.2.2.2.1 s.2.2.2.2
def ofT (k : ByteArray) : St := (kG k, kR k, kL k, kN k, kX k)
def stV (s : St) : Bool := stampV s.1 s.2.1 s.2.2.1 s.2.2.2.1 s.2.2.2.2
def txtB (t : ByteArray) : Bool := decide (t.size ≤ 256)
theorem ofKeyT_any (k : ByteArray) (w : World) (hk : k.size ≤ 9223372036854775807) : Calls Tryz.prog 42 #[.string k] w fun e w' => e = .returned (.tuple #[svT (ofT k), .int .i64 (if okV k then 0 else 4)]) ∧ Below w.heap.size w w' := ofKey_any k w hk
theorem leave_tmp {fn : Func} {tmps : Array Value} {p : Tmp} {v : Value} {R : Ending → World → Prop} {W : World} (h : fn.results = #[.tmp p]) (hp : tmps.getD p undef = v) (hR : R (.returned v) W) : LeavesInM Fence.wide 6 Tryz.prog fn tmps R [] .returning W := by
  refine leave_none (v := v) ?_ hR
  simp only [Array.getD_eq_getD_getElem?] at hp
  simp [results, h, hp]
theorem new3r (w : World) (o1 o2 o3 : Obj) : (((w.alloc o1).alloc o2).alloc o3).heap[w.heap.size]? = some o1 ∧ (((w.alloc o1).alloc o2).alloc o3).heap[w.heap.size + 1]? = some o2 ∧ (((w.alloc o1).alloc o2).alloc o3).heap[w.heap.size + 2]? = some o3 ∧ Below w.heap.size w (((w.alloc o1).alloc o2).alloc o3) := by
  obtain ⟨m0, m1⟩ := new2 w o1 o2
  have hc : Below ((w.alloc o1).alloc o2).heap.size ((w.alloc o1).alloc o2) (((w.alloc o1).alloc o2).alloc o3) := (Below.refl _ _).alloc (Nat.le_refl _) _
  have h2 := heap_alloc_new ((w.alloc o1).alloc o2) o3
  rw [show ((w.alloc o1).alloc o2).heap.size = w.heap.size + 2 from by simp] at h2
  exact ⟨(hc.block _ (gI m0).1).trans m0, (hc.block _ (gI m1).1).trans m1, h2, (((Below.refl _ w).alloc (Nat.le_refl _) _).alloc (by simp) _).alloc (by simp; omega) _⟩
theorem enters82 : Enters Tryz.prog 82 := enters_of Tryz.func82 (by kernel_rfl) rfl
/-- What stands between rounds: a bool of its own. -/
def BI (wA : World) (Mb : Nat) (b : Bool) (W : World) : Prop := Only (fun j => j = Mb) wA W ∧ W.heap[Mb]? = some (.cells #[.bool b] 4 (0, 0))
theorem BI.other {wA : World} {Nb : Nat} {b : Bool} {W W' : World} (h : BI wA Nb b W) (hN : Nb < wA.heap.size) (ho : Only (fun j => j = wA.heap.size + 1) W W') : BI wA Nb b W' :=
  ⟨h.1.trans ho (fun j hj e => by have e' : j = wA.heap.size + 1 := e; omega), (ho.block _ (gI h.2).1 (by omega)).trans h.2⟩

end Go.Proofs.YtkkpdgfllnbigaaGreatDoor
namespace Go.Proofs.YtkkpdgfllnbigaaGreatDoor
open Go.RowKit Go.Shelf
set_option linter.unusedSimpArgs false
attribute [local go_sem] Oper.semAt_some

/-- F, with what it has caught, hands over xs. Between rounds it may turn the blocks from W's end to B alone; the rounds may turn D's and those from B on. -/
def IterB {α : Type} (F : FuncId) (caps : Array Value) (xs : List α) (enc : α → Array Value) (K : Nat → Prop) (w : World) : Prop :=
  ∀ (l : Nat) (D : Nat → Prop) (J : Nat → Nat → World → Prop) (Jx : Nat → World → Prop) (W : World), Pm.Same K w W → w.heap.size ≤ W.heap.size → (∀ j, D j → ¬ K j) → (∀ j, D j → j < W.heap.size) →
    (∀ B c W1 W2, W.heap.size ≤ B → J B c W1 → Only (fun j => W.heap.size ≤ j ∧ j < B) W1 W2 → J B c W2) →
    (∀ B W1 W2, W.heap.size ≤ B → Jx B W1 → Only (fun j => W.heap.size ≤ j ∧ j < B) W1 W2 → Jx B W2) →
    (∀ B c x W1, W.heap.size ≤ B → xs[c]? = some x → J B c W1 → Pm.Same K w W1 → B ≤ W1.heap.size → YieldAt Fence.wide 4 Tryz.prog l (enc x) W1 (Pm.Went (fun j => D j ∨ B ≤ j) (J B) (Jx B) W1 (c + 1))) →
    (∀ B W1, Below W.heap.size W W1 → W1.heap.size ≤ B → J B 0 W1) →
    Calls Tryz.prog F (#[.func (.yield l) #[] #[]] ++ caps) W fun e W' => (∃ v, e = .returned v) ∧ ∃ B, W.heap.size ≤ B ∧ (J B xs.length W' ∨ Jx B W')

set_option maxHeartbeats 1000000 in
/-- 'for .. := range it { .. }' over such a one: I, Ix are told from where on the rounds' own blocks lie. -/
theorem range_ib {α : Type} {a : Act} {w : World} {Q : Exit → Act → World → Prop} {g : Operand} {ps : Array Tmp} {assign body : Code} (F : FuncId) (eg : Enters Tryz.prog F) (caps : Array Value) (xs : List α) (enc : α → Array Value) (K : Nat → Prop)
    (hit : IterB F caps xs enc K w) (hg : a.eval g = .func (.func F) #[] caps) (hps : ∀ x ∈ xs, (enc x).size = ps.size) (hK : ∀ j, K j → j < w.heap.size)
    (D : Nat → Prop) (hDK : ∀ j, D j → ¬ K j) (hDlt : ∀ j, D j → j < w.heap.size)
    (I : Nat → Nat → World → Prop) (Ix : Nat → Code → World → Prop) (hI : ∀ B k W W', w.heap.size + 2 ≤ B → I B k W → Only (fun j => w.heap.size + 1 ≤ j ∧ j < B) W W' → I B k W') (hIx : ∀ B c W W', w.heap.size + 2 ≤ B → Ix B c W → Only (fun j => w.heap.size + 1 ≤ j ∧ j < B) W W' → Ix B c W') (h0 : ∀ B W, Below w.heap.size w W → W.heap.size ≤ B → I B 0 W)
    (hround : ∀ B c x W, w.heap.size + 2 ≤ B → xs[c]? = some x → I B c W → Pm.Same K w W → B ≤ W.heap.size →
      assign.wpIn (Fence.wide.inRound (w.heap.size + 1)) 4 Tryz.prog (Exit.then (fun a1 W1 => Only (fun j => D j ∨ B ≤ j) W W1 ∧ ∀ W2, Only (fun j => j = w.heap.size + 1) W1 W2 → body.wpIn (Fence.wide.inRound (w.heap.size + 1)) 4 Tryz.prog (rpost (fun j => D j ∨ B ≤ j) (I B) (Ix B) W2 (c + 1)) a1 W2) (fun _ _ _ => False))
        { tmps := (ps.zip (enc x)).foldl (fun t (p, v) => t.setIfInBounds p v) a.tmps, defers := [] } W)
    (hdone : ∀ B W, w.heap.size + 2 ≤ B → I B xs.length W → w.heap.size < W.heap.size → W.heap[w.heap.size]? = some (.deferred (some [])) → Q .normal { a with defers := { target := .collected w.heap.size, args := #[] } :: a.defers } W)
    (hstop : ∀ B c W, w.heap.size + 2 ≤ B → Ix B c W → w.heap.size < W.heap.size → W.heap[w.heap.size]? = some (.deferred (some [])) → c.wp Tryz.prog Q { a with defers := { target := .collected w.heap.size, args := #[] } :: a.defers } W) :
    (Code.rangeFunc g ps assign body).wp Tryz.prog Q a w := by
  have hD0 : ¬ D w.heap.size := fun d => by have := hDlt _ d; omega
  have hD1 : ¬ D (w.heap.size + 1) := fun d => by have := hDlt _ d; omega
  refine (wpIn_wide (n := 6)).1 (wpIn_rangeFunc (fun fn _ => ?_))
  obtain ⟨rec, hrec⟩ : ∃ rec : LoopState → Option Code → Loop, rec = fun st pe => { state := st, pending := pe, fn := fn, tmps := a.tmps, params := ps, assign := assign, body := body, defers := w.heap.size } := ⟨_, rfl⟩
  obtain ⟨W1, hW1⟩ : ∃ W1, (w.alloc (.deferred (some []))).alloc (.loop (rec .ready none)) = W1 := ⟨_, rfl⟩
  obtain ⟨m0, m1⟩ := new2 w (.deferred (some [])) (.loop (rec .ready none))
  rw [hW1] at m0 m1
  have hb1 : Below w.heap.size w W1 := by rw [← hW1]; exact ((Below.refl _ w).alloc (Nat.le_refl _) _).alloc (by simp) _
  have hs1 : W1.heap.size = w.heap.size + 2 := by rw [← hW1]; simp
  have toOnly : ∀ {A B : World}, Below A.heap.size A B → Only (fun j => j = w.heap.size + 1) A B := fun h => below_only h
  have hK1 : Pm.Same K w W1 := fun j hj => hb1.block j (hK j hj)
  refine ⟨w.heap.size + 1, [{ target := .collected w.heap.size, args := #[] }], W1, { target := .fn (.func F) caps, args := #[.func (.yield (w.heap.size + 1)) #[] #[]] }, W1, F,
    #[.func (.yield (w.heap.size + 1)) #[] #[]] ++ caps, W1, ?_, ?_, fun _ _ => trivial, ?_, fun _ => by omega, ?_⟩
  · rw [← hW1, hrec]; exact run_enterLoop_outer _ _ _ _ _
  · simp only [resolve, hg]
    simp [go_sem]
  · have eg' := fun args w => eg args w
    simp [invoke, go_sem, eg']
  · refine callsIn_wide.2 ((hit (w.heap.size + 1) (fun j => D j ∨ j = w.heap.size + 1)
      (fun B k W => I B k W ∧ W.heap[w.heap.size + 1]? = some (.loop (rec .ready none)) ∧ W.heap[w.heap.size]? = some (.deferred (some [])))
      (fun B W => ∃ c, Ix B c W ∧ W.heap[w.heap.size + 1]? = some (.loop (rec .done (some c))) ∧ W.heap[w.heap.size]? = some (.deferred (some []))) W1 hK1 (by omega)
      (fun j e => e.elim (hDK j) (fun e k => by have := hK j k; omega)) (fun j e => by rw [hs1]; exact e.elim (fun e => Nat.lt_of_lt_of_le (hDlt j e) (by omega)) (fun e => by omega))
      (fun B k W W' hB hj ho => by
        rw [hs1] at hB ho
        exact ⟨hI B k W W' hB hj.1 (ho.mono (fun j _ e => by have e' : w.heap.size + 2 ≤ j ∧ j < B := e; exact ⟨by omega, by omega⟩)), (ho.block _ (gI hj.2.1).1 (fun e => by have e' : w.heap.size + 2 ≤ w.heap.size + 1 ∧ w.heap.size + 1 < B := e; omega)).trans hj.2.1, (ho.block _ (gI hj.2.2).1 (fun e => by have e' : w.heap.size + 2 ≤ w.heap.size ∧ w.heap.size < B := e; omega)).trans hj.2.2⟩)
      (fun B W W' hB hj ho => by
        rw [hs1] at hB ho
        obtain ⟨c, hj⟩ := hj
        exact ⟨c, hIx B c W W' hB hj.1 (ho.mono (fun j _ e => by have e' : w.heap.size + 2 ≤ j ∧ j < B := e; exact ⟨by omega, by omega⟩)), (ho.block _ (gI hj.2.1).1 (fun e => by have e' : w.heap.size + 2 ≤ w.heap.size + 1 ∧ w.heap.size + 1 < B := e; omega)).trans hj.2.1, (ho.block _ (gI hj.2.2).1 (fun e => by have e' : w.heap.size + 2 ≤ w.heap.size ∧ w.heap.size < B := e; omega)).trans hj.2.2⟩) ?_ ?_).mono ?_)
    · rintro B k x W hB hx ⟨hi, hl, hk⟩ hSK hsz
      rw [hs1] at hB
      have hy := run_yield (P := Tryz.prog) (args := enc x) hl (by rw [hrec]; exact hps x (List.mem_of_getElem? hx))
      rw [hrec] at hy
      refine ⟨fn, _, assign, body, hy, roundIn_of_wpIn trivial (wpIn_mono (hround B k x W hB hx hi hSK hsz) ?_)⟩
      rintro e a1 Wa hp
      cases e with
      | normal =>
        obtain ⟨hoa, hbody⟩ := hp
        have hE0 : ¬ (D w.heap.size ∨ B ≤ w.heap.size) := fun e => e.elim hD0 (fun e => by omega)
        have hE1 : ¬ (D (w.heap.size + 1) ∨ B ≤ w.heap.size + 1) := fun e => e.elim hD1 (fun e => by omega)
        have hla : Wa.heap[w.heap.size + 1]? = some (.loop (rec .ready none)) := (hoa.block _ (gI hl).1 hE1).trans hl
        have hka : Wa.heap[w.heap.size]? = some (.deferred (some [])) := (hoa.block _ (gI hk).1 hE0).trans hk
        refine ⟨_, run_beginRound hla (by rw [hrec]), ?_⟩
        have hlta := (gI hla).1
        have hl2 : (Wa.putObj (w.heap.size + 1) (.loop { rec .ready none with state := .busy })).heap[w.heap.size + 1]? = some (.loop { rec .ready none with state := .busy }) := World.putObj_heap_same hlta
        have hk2 : (Wa.putObj (w.heap.size + 1) (.loop { rec .ready none with state := .busy })).heap[w.heap.size]? = some (.deferred (some [])) := (World.putObj_heap_other (by omega)).trans hka
        have hT : ∀ {A A' : World}, Only (fun j => D j ∨ B ≤ j) A A' → Only (fun j => (D j ∨ j = w.heap.size + 1) ∨ B ≤ j) A A' := fun h => h.mono (fun _ _ e => e.elim (fun e => .inl (.inl e)) .inr)
        have hT2 : ∀ {A A' : World}, Only (fun j => j = w.heap.size + 1) A A' → Only (fun j => (D j ∨ j = w.heap.size + 1) ∨ B ≤ j) A A' := fun h => h.mono (fun _ _ e => .inl (.inr e))
        have hTw := (hT hoa).next (hT2 (only_putObj Wa (w.heap.size + 1) (.loop { rec .ready none with state := .busy })))
        refine wpIn_mono (hbody _ (only_putObj Wa _ _)) ?_
        have fin : ∀ (jump : Option Code) (W3 : World), Only (fun j => D j ∨ B ≤ j) (Wa.putObj (w.heap.size + 1) (.loop { rec .ready none with state := .busy })) W3 → ∃ W4, (Instr.endRound (w.heap.size + 1) jump).run Tryz.prog W3 = .ok (.bool jump.isNone) W4 ∧ Only (fun j => j = w.heap.size + 1) W3 W4 ∧
            W4.heap[w.heap.size + 1]? = some (.loop (rec (if jump.isNone then .ready else .done) jump)) ∧ W4.heap[w.heap.size]? = some (.deferred (some [])) ∧ Only (fun j => (D j ∨ j = w.heap.size + 1) ∨ B ≤ j) W W4 := fun jump W3 ho3 => by
          have hl3 := (ho3.block _ (by simpa using hlta) hE1).trans hl2
          have hk3 := (ho3.block _ (by simp; omega) hE0).trans hk2
          have := run_endRound (P := Tryz.prog) jump hl3
          refine ⟨_, this, only_putObj W3 _ _, ?_, (World.putObj_heap_other (by omega)).trans hk3, (hTw.next (hT ho3)).next (hT2 (only_putObj W3 _ _))⟩
          rw [World.putObj_heap_same (gI hl3).1, hrec]
        rintro e a3 W3 hp3
        cases e with
        | normal =>
          obtain ⟨ho3, hi3⟩ := hp3
          obtain ⟨W4, hr, ho4, hl4, hk4, hL4⟩ := fin none W3 ho3
          exact ⟨_, _, hr, hL4, .inl ⟨rfl, hI B _ _ _ hB hi3 (ho4.mono (fun j _ e => by have e' : j = w.heap.size + 1 := e; exact ⟨by omega, by omega⟩)), hl4, hk4⟩⟩
        | ret =>
          obtain ⟨ho3, hi3⟩ := hp3
          obtain ⟨W4, hr, ho4, hl4, hk4, hL4⟩ := fin (some .ret) W3 ho3
          exact ⟨_, _, hr, hL4, .inr ⟨rfl, .ret, hIx B _ _ _ hB hi3 (ho4.mono (fun j _ e => by have e' : j = w.heap.size + 1 := e; exact ⟨by omega, by omega⟩)), hl4, hk4⟩⟩
        | exit id =>
          obtain ⟨ho3, hi3⟩ := hp3
          obtain ⟨W4, hr, ho4, hl4, hk4, hL4⟩ := fin (some (.exit id)) W3 ho3
          exact ⟨_, _, hr, hL4, .inr ⟨rfl, .exit id, hIx B _ _ _ hB hi3 (ho4.mono (fun j _ e => by have e' : j = w.heap.size + 1 := e; exact ⟨by omega, by omega⟩)), hl4, hk4⟩⟩
        | goto t =>
          obtain ⟨ho3, hi3⟩ := hp3
          obtain ⟨W4, hr, ho4, hl4, hk4, hL4⟩ := fin (some (.goto t)) W3 ho3
          exact ⟨_, _, hr, hL4, .inr ⟨rfl, .goto t, hIx B _ _ _ hB hi3 (ho4.mono (fun j _ e => by have e' : j = w.heap.size + 1 := e; exact ⟨by omega, by omega⟩)), hl4, hk4⟩⟩
        | panic ch => exact hp3.elim
        | outgrown => exact hp3.elim
      | ret => exact hp.elim
      | exit id => exact hp.elim
      | goto t => exact hp.elim
      | panic ch => exact hp.elim
      | outgrown => exact hp.elim
    · intro B W hb hB
      rw [hs1] at hb
      have hb' : Below w.heap.size w W := hb1.trans (hb.mono (by omega))
      exact ⟨h0 B W hb' hB, (hb.block _ (by omega)).trans m1, (hb.block _ (by omega)).trans m0⟩
    · rintro e W2 ⟨⟨v, rfl⟩, B, hB, (⟨hi, hl, hk⟩ | ⟨c, hi, hl, hk⟩)⟩
      · rw [hs1] at hB
        have hlt := (gI hk).1
        refine ⟨none, _, by have := run_endLoop (P := Tryz.prog) hl (by rw [hrec]; simp); rw [hrec] at this; exact this, hdone B _ hB (hI B _ _ _ hB hi ((only_putObj _ _ _).mono (fun j _ e => by have e' : j = w.heap.size + 1 := e; exact ⟨by omega, by omega⟩))) (by simpa using hlt) ((World.putObj_heap_other (by omega)).trans hk)⟩
      · rw [hs1] at hB
        have hlt := (gI hk).1
        refine ⟨some c, _, by have := run_endLoop (P := Tryz.prog) hl (by rw [hrec]; simp); rw [hrec] at this; exact this, wpIn_wide.2 (hstop B c _ hB (hIx B _ _ _ hB hi ((only_putObj _ _ _).mono (fun j _ e => by have e' : j = w.heap.size + 1 := e; exact ⟨by omega, by omega⟩))) (by simpa using hlt) ((World.putObj_heap_other (by omega)).trans hk))⟩
end Go.Proofs.YtkkpdgfllnbigaaGreatDoor
namespace Go.Proofs.YtkkpdgfllnbigaaGreatDoor
open Go.RowKit Go.Shelf
set_option linter.unusedSimpArgs false
attribute [local go_sem] Oper.semAt_some

theorem roundIn_in {l' m m' : Nat} {P : Program} {l : Nat} {f : FuncId} {tmps : Array Value} {assign body : Code} {w : World} {R : Ending → World → Prop}
    (h : RoundIn Fence.wide m P l f tmps assign body w R) : RoundIn (Fence.wide.inRound l') m' P l f tmps assign body w R := ⟨h.1, fun c cs _ => h.2 c cs (fun d hd => by cases hd)⟩
theorem ret_lv {fn : Func} {R : Ending → World → Prop} {a : Act} {w : World} (h : LeavesInM Fence.wide 6 Tryz.prog fn a.tmps R a.defers .returning w) : noPanic (bodyPostM Fence.wide 6 Tryz.prog fn R) .ret a w := h
theorem leave_unit {fn : Func} {tmps : Array Value} {R : Ending → World → Prop} {W : World} (h : fn.results = #[]) (hR : R (.returned (.tuple #[])) W) : LeavesInM Fence.wide 6 Tryz.prog fn tmps R [] .returning W := by
  refine leave_none (v := .tuple #[]) ?_ hR
  simp [results, h]

end Go.Proofs.YtkkpdgfllnbigaaGreatDoor
namespace Go.Proofs.YtkkpdgfllnbigaaGreatDoor
open Go.RowKit Go.Shelf
set_option linter.unusedSimpArgs false

/-- Behind this address lie the texts l. -/
def Rs (w : World) (ao : Option Addr) (l : List ByteArray) : Prop :=
  (ao = none → l = []) ∧ ∀ a, ao = some a → ∀ j s, l[j]? = some s → w.cell? (a.add j) = some (.string s)
theorem Rs.at {w : World} {ao : Option Addr} {l : List ByteArray} (h : Rs w ao l) {k : Nat} {s : ByteArray} (hs : l[k]? = some s) : ∃ ab off, ao = some ⟨ab, off, none⟩ ∧ w.cell? ⟨ab, off + k, none⟩ = some (.string s) := by
  cases ao with
  | none => have := h.1 rfl; subst this; simp at hs
  | some a =>
    obtain ⟨ab, off, sp⟩ := a
    have hl : 0 < l.length := by have := (List.getElem?_eq_some_iff.1 hs).1; omega
    have h0 := h.2 _ rfl 0 l[0] (List.getElem?_eq_getElem hl)
    simp only [Addr.add, if_true] at h0
    have e : sp = none := World.cell?_spot h0
    subst e
    have hk := h.2 _ rfl k s hs
    rw [add_lit] at hk
    exact ⟨ab, off, rfl, hk⟩
theorem Rs.only {C : Nat → Prop} {w w' : World} {ao : Option Addr} {l : List ByteArray} (hr : Rs w ao l) (h : Only C w w') (hC : ∀ a, ao = some a → ¬ C a.block) : Rs w' ao l :=
  ⟨hr.1, fun a ha j u hj => h.cell (hr.2 a ha j u hj) (by
    have : (a.add j).block = a.block := by unfold Addr.add; split <;> rfl
    rw [this]; exact hC a ha)⟩
theorem Rs.below {w w' : World} {ao : Option Addr} {l : List ByteArray} (h : Rs w ao l) (hb : Below w.heap.size w w') : Rs w' ao l := h.only (Only.ofBelow hb) (fun _ _ d => d.elim)
theorem Rs.drew {w : World} {ao : Option Addr} {l : List ByteArray} (h : Rs w ao l) : Rs w.drew ao l := h.below (Below.refl _ w).drew
theorem Rs.nil (w : World) (ao : Option Addr) : Rs w ao [] := ⟨fun _ => rfl, by simp⟩
theorem Rs.take {w : World} {ao : Option Addr} {l : List ByteArray} (h : Rs w ao l) (k : Nat) : Rs w ao (l.take k) :=
  ⟨fun ha => by rw [h.1 ha]; simp, fun a ha j u hj => h.2 a ha j u (by
    rw [List.getElem?_take] at hj
    split at hj
    · exact hj
    · cases hj)⟩

end Go.Proofs.YtkkpdgfllnbigaaGreatDoor
namespace Go.Proofs.YtkkpdgfllnbigaaGreatDoor
open Go.RowKit Go.Shelf
set_option linter.unusedSimpArgs false
attribute [local go_sem] Oper.semAt_some

def Ot (w : World) (B : Nat) (v : Value) (L : List ByteArray) : Prop := w.ownsRow B 9 1 v L.length (L.map Value.string)
theorem Ot.nil (w : World) (B : Nat) : Ot w B (.slice none 0 0) [] := World.ownsRow_nil _ _ _ _
theorem Ot.only {w w' : World} {B : Nat} {v : Value} {L : List ByteArray} {D : Nat → Prop} (h : Ot w B v L) (ho : Only D w w') (hv : ∀ k, v.ownBlock = some k → ¬ D k) : Ot w' B v L := ho.row h hv
theorem Ot.below {w w' : World} {B : Nat} {v : Value} {L : List ByteArray} (h : Ot w B v L) (hb : Below w.heap.size w w') : Ot w' B v L := h.only (Only.ofBelow hb) (fun _ _ d => d.elim)
theorem info9t : (Tryz.prog.info? 9).map (fun i => (i.zero, i.size, i.bytes)) = some (some (.string ⟨#[]⟩), 1, 16) := by kernel_rfl
theorem strs_one {l : List ByteArray} (v : Value) (h : v ∈ l.map Value.string) : v.oneCell' = true := by
  obtain ⟨s, -, rfl⟩ := List.mem_map.1 h; rfl
theorem exec_bs9 {ev' : Operand → Value} {x : Operand} {T : TypeId} {w : World} {y : ByteArray} (hx : ev' x = .string y) : (execOp ev' { dst := none, op := .buildSlice 50 1 #[(0, x)], type := T, pos := "", after := #[], guard := none }).run Tryz.prog w = .ok (.value (.slice (some ⟨w.heap.size, 0, none⟩) 1 1)) (w.alloc (.cells #[.string y] 9)) := by
  unfold execOp
  simp only [hx]
  go_simp
theorem leave_tmp2 {fn : Func} {tmps : Array Value} {p q : Tmp} {u v : Value} {R : Ending → World → Prop} {W : World} (h : fn.results = #[.tmp p, .tmp q]) (hp : tmps.getD p undef = u) (hq : tmps.getD q undef = v) (hR : R (.returned (.tuple #[u, v])) W) : LeavesInM Fence.wide 6 Tryz.prog fn tmps R [] .returning W := by
  refine leave_none (v := .tuple #[u, v]) ?_ hR
  simp only [Array.getD_eq_getD_getElem?] at hp hq
  simp [results, h, hp, hq]
end Go.Proofs.YtkkpdgfllnbigaaGreatDoor
namespace Go.Proofs.YtkkpdgfllnbigaaGreatDoor
open Go.RowKit Go.Shelf
set_option linter.unusedSimpArgs false
attribute [local go_sem] Oper.semAt_some

/-- What stands between rounds. -/
structure GIE (wA : World) (Lb B : Nat) (p : List El) (W : World) : Prop where
  only : Only (fun j => j = Lb ∨ B ≤ j) wA W
  box : ∃ ao c, W.heap[Lb]? = some (.cells #[.slice ao p.length c] 69 (0, 0)) ∧ Oe W B (.slice ao p.length c) p
theorem GIE.own {wA : World} {Lb B : Nat} {p : List El} {W W' : World} (h : GIE wA Lb B p W) (hL : Lb < wA.heap.size) (_hB : wA.heap.size + 2 ≤ B) (ho : Only (fun j => wA.heap.size + 1 ≤ j ∧ j < B) W W') : GIE wA Lb B p W' := by
  obtain ⟨ao, c, hb, hO⟩ := h.box
  refine ⟨h.only.trans ho (fun j hj e => by have e' : wA.heap.size + 1 ≤ j ∧ j < B := e; omega), ao, c, (ho.block _ (gI hb).1 (fun e => by have e' : wA.heap.size + 1 ≤ Lb ∧ Lb < B := e; omega)).trans hb, hO.only ho (fun k hk e => by have := World.ownsRow.lt hO k hk; have e' : wA.heap.size + 1 ≤ k ∧ k < B := e; omega)⟩
theorem Ot.lift {w : World} {B B' : Nat} {v : Value} {L : List ByteArray} (h : Ot w B v L) (hB : B' ≤ B) : Ot w B' v L := by
  rcases h with ⟨h1, h2⟩
  refine ⟨h1, ?_⟩
  rcases h2 with h2 | ⟨g, cap, cur, e, hb, r⟩
  · exact .inl h2
  · exact .inr ⟨g, cap, cur, e, Nat.le_trans hB hb, r⟩
/-- What stands between rounds. -/
structure GIS (wA : World) (Lb B : Nat) (p : List ByteArray) (W : World) : Prop where
  only : Only (fun j => j = Lb ∨ B ≤ j) wA W
  box : ∃ ao c, W.heap[Lb]? = some (.cells #[.slice ao p.length c] 50 (0, 0)) ∧ Ot W B (.slice ao p.length c) p
theorem GIS.own {wA : World} {Lb B : Nat} {p : List ByteArray} {W W' : World} (h : GIS wA Lb B p W) (hL : Lb < wA.heap.size) (_hB : wA.heap.size + 2 ≤ B) (ho : Only (fun j => wA.heap.size + 1 ≤ j ∧ j < B) W W') : GIS wA Lb B p W' := by
  obtain ⟨ao, c, hb, hO⟩ := h.box
  refine ⟨h.only.trans ho (fun j hj e => by have e' : wA.heap.size + 1 ≤ j ∧ j < B := e; omega), ao, c, (ho.block _ (gI hb).1 (fun e => by have e' : wA.heap.size + 1 ≤ Lb ∧ Lb < B := e; omega)).trans hb, hO.only ho (fun k hk e => by have := World.ownsRow.lt hO k hk; have e' : wA.heap.size + 1 ≤ k ∧ k < B := e; omega)⟩
end Go.Proofs.YtkkpdgfllnbigaaGreatDoor
namespace Go.Proofs.YtkkpdgfllnbigaaGreatDoor.Pm
open Go.RowKit Go.Shelf
set_option linter.unusedSimpArgs false

set_option maxHeartbeats 1000000 in
theorem mTake_any (t : T) (k : ByteArray) (w : World) (h : In w t) (hn : t.n ≤ 700000) : Calls Tryz.prog 34 #[mv t, .string k] w fun e w' => ∃ t', e = .returned (mv t') ∧ In w' t' ∧ Takes w.heap.size k t t' ∧ Below w.heap.size w w' := by
  obtain ⟨hb, hc, hf⟩ := two_boxes w t.ptr
  have hB := (new2 w (.cells #[t.ptr] 43) (.cells #[.pointer none] 43)).2
  have hp := take_any t.n t k _ (Nat.le_refl _) (In.below hb h) hn
  have key : ∀ w1 t', Gives ((w.alloc (.cells #[t.ptr] 43)).alloc (.cells #[.pointer none] 43)) (.returned t'.ptr) w1 t' → Takes ((w.alloc (.cells #[t.ptr] 43)).alloc (.cells #[.pointer none] 43)).heap.size k t t' →
      w1.cell? ⟨w.heap.size + 1, 0, none⟩ = some (.pointer none) ∧ w1.frozen? ⟨w.heap.size + 1, 0, none⟩ = false ∧ Hid ((w1.setCell ⟨w.heap.size + 1, 0, none⟩ t'.ptr).heap[w.heap.size + 1]? = some (.cells #[t'.ptr] 43 (0, 0)) ∧ In (w1.setCell ⟨w.heap.size + 1, 0, none⟩ t'.ptr) t' ∧ Takes w.heap.size k t t' ∧ Below w.heap.size w (w1.setCell ⟨w.heap.size + 1, 0, none⟩ t'.ptr)) := fun w1 t' hg hp => by
    have hw1 := (hg.2.2.block (w.heap.size + 1) (by simp)).trans hB
    have hb1 := hb.trans (hg.2.2.mono hb.size)
    obtain ⟨o1, o2, o3⟩ := out_box (y := t'.ptr) hw1 (by omega) hb1
    refine ⟨by rw [cell_of_row _ _ 0 _ 43 (0, 0) hw1]; rfl, frozen_of_row _ _ 0 _ 43 hw1, hide ⟨o1, In.aside hw1 o3 hg.2.1, hp.mono hb.size, o2⟩⟩
  unfold mv
  obtain ⟨a, ha⟩ := t.ptr_shape
  rw [ha] at hp hb key ⊢
  have HK := hide key
  clear h ha hb hc hf key hB hn
  go_enter Tryz.func34, Tryz.ntmps34
  go_wp2_with (go_at_call 55; refine hp.mono ?_; rintro e w1 ⟨t', hg, hpp⟩; have he := hg.1; subst he; obtain ⟨q1, q2, HQ⟩ := HK.out w1 t' hg hpp; obtain ⟨b, hb⟩ := t'.ptr_shape; have HX := hide hb; rw [hb] at HQ ⊢; clear hb hg hpp)
  refine ret_row (w.heap.size + 1) [.pointer b] rfl rfl Tryz.underlying43 rfl Tryz.info43 HQ.out.1 rfl ?_
  exact ⟨t', by rw [HX.out], HQ.out.2.1, HQ.out.2.2.1, HQ.out.2.2.2⟩

theorem new3 (w : World) (o1 o2 o3 : Obj) : (((w.alloc o1).alloc o2).alloc o3).heap[w.heap.size]? = some o1 ∧ (((w.alloc o1).alloc o2).alloc o3).heap[w.heap.size + 1]? = some o2 ∧ (((w.alloc o1).alloc o2).alloc o3).heap[w.heap.size + 1 + 1]? = some o3 ∧ Below w.heap.size w (((w.alloc o1).alloc o2).alloc o3) := by
  obtain ⟨h1, h2⟩ := new2 w o1 o2
  have s2 : ((w.alloc o1).alloc o2).heap.size = w.heap.size + 1 + 1 := by simp
  refine ⟨(Below.heap_alloc _ _ _ (by rw [s2]; omega)).trans h1, (Below.heap_alloc _ _ _ (by rw [s2]; omega)).trans h2, ?_, (((Below.refl _ w).alloc (Nat.le_refl _) _).alloc (by simp) _).alloc (by simp; omega) _⟩
  have := heap_alloc_new ((w.alloc o1).alloc o2) o3
  rw [s2] at this
  exact this

end Go.Proofs.YtkkpdgfllnbigaaGreatDoor.Pm
namespace Go.Proofs.YtkkpdgfllnbigaaGreatDoor.Pm
open Go.RowKit Go.Shelf
set_option linter.unusedSimpArgs false

theorem set_one {w : World} {B i : Nat} {cs : Array Value} {ty : TypeId} (v : Value) (h : w.heap[B]? = some (.cells cs ty (0, 0))) : (w.setCell ⟨B, i, none⟩ v).heap[B]? = some (.cells (cs.setIfInBounds i v) ty (0, 0)) ∧ Only (fun j => j = B) w (w.setCell ⟨B, i, none⟩ v) := by
  refine ⟨?_, (Only.ofGrown (grown_setCell w ⟨B, i, none⟩ _)).mono (fun j _ e => by simpa using e.symm)⟩
  rw [heap_setCell_same _ _ _ _ ty _ h]
/-- What a split tells, in one value. -/
def cv (a b : T) (f : T) : Value := .agg #[a.ptr, b.ptr, .string f.val, .bool f.isSome]
end Go.Proofs.YtkkpdgfllnbigaaGreatDoor.Pm
namespace Go.Proofs.YtkkpdgfllnbigaaGreatDoor.Pm
open Go.RowKit Go.Shelf
set_option linter.unusedSimpArgs false

end Go.Proofs.YtkkpdgfllnbigaaGreatDoor.Pm
namespace Go.Proofs.YtkkpdgfllnbigaaGreatDoor.Pm
open Go.RowKit Go.Shelf
set_option linter.unusedSimpArgs false

theorem In.underP {w : World} : ∀ {t : T}, In w t → t.under w.heap.size
  | .nil, _ => trivial
  | .node _ _ _ _ _, h => ⟨h.lt, In.underP h.2.1, In.underP h.2.2⟩
/-- What closed makes. -/
def Closes (B : Nat) (l r t : T) : Prop := (r = .nil ∧ t = l) ∨ (r ≠ .nil ∧ ∃ r' t0, Takes B r.first.key r r' ∧ Joined B r.first.key r.first.val l r' t0 ∧ t = t0)
theorem Closes.list {B : Nat} {l r t : T} (h : Closes B l r t) (hr : Srt r.list) : t.list = l.list ++ r.list := by
  rcases h with ⟨rfl, rfl⟩ | ⟨hn, r', t0, ht, hj, rfl⟩
  · simp [T.list]
  · obtain ⟨_, fk, fv, _, frest, f1, f2, _⟩ := T.first_spec hn
    rw [hj.list, ht.list hr]
    have e1 : r.first.key = fk := by rw [f1]; rfl
    have e2 : r.first.val = fv := by rw [f1]; rfl
    rw [e1, e2, f2]
    congr 1
    have hp : pos fk ((fk, fv) :: frest) = 0 := by simp [pos, ord_B.refl]
    have hh : has fk ((fk, fv) :: frest) = true := by unfold has; rw [hp]; simp
    unfold del
    rw [hh, hp]
    simp
end Go.Proofs.YtkkpdgfllnbigaaGreatDoor.Pm
namespace Go.Proofs.YtkkpdgfllnbigaaGreatDoor.Pm
open Go.RowKit Go.Shelf
set_option linter.unusedSimpArgs false

/-- What a map has under a key. -/
def pv (p : ByteArray × Bool) : Value := .agg #[.string p.1, .bool p.2]
/-- The elements' rule: does a key stay, and with what? -/
def keeps (p q r : ByteArray × Bool) : ByteArray × Bool := if q.2 && (r.2 || !p.2) then (q.1, true) else if r.2 && !p.2 then (r.1, true) else (⟨#[]⟩, false)
end Go.Proofs.YtkkpdgfllnbigaaGreatDoor.Pm
