/-
  ITERATORS THAT LAY BLOCKS OF THEIR OWN AND TURN THEM BETWEEN ROUNDS (they range over another iterator themselves), and the law for a range over one.
-/
import Derived.Test.YtkeldhohilmdcaaGreatPIterF
import Derived.Test.YtkeldhohilmdcaaGreatKeep
namespace Go.Proofs.YtkeldhohilmdcaaGreat
open Go.RowKit Go.Shelf
set_option linter.unusedSimpArgs false
attribute [local go_sem] Oper.semAt_some

/-- F, with what it has caught, hands over xs. Between rounds it may turn the blocks from W's end to B alone; the rounds may turn D's and those from B on. -/
def IterB {α : Type} (F : FuncId) (caps : Array Value) (xs : List α) (enc : α → Array Value) (K : Nat → Prop) (w : World) : Prop :=
  ∀ (l : Nat) (D : Nat → Prop) (J : Nat → Nat → World → Prop) (Jx : Nat → World → Prop) (W : World), Pm.Same K w W → w.heap.size ≤ W.heap.size → (∀ j, D j → ¬ K j) → (∀ j, D j → j < W.heap.size) →
    (∀ B c W1 W2, W.heap.size ≤ B → J B c W1 → Only (fun j => W.heap.size ≤ j ∧ j < B) W1 W2 → J B c W2) →
    (∀ B W1 W2, W.heap.size ≤ B → Jx B W1 → Only (fun j => W.heap.size ≤ j ∧ j < B) W1 W2 → Jx B W2) →
    (∀ B c x W1, W.heap.size ≤ B → xs[c]? = some x → J B c W1 → Pm.Same K w W1 → B ≤ W1.heap.size → YieldAt Fence.wide 4 Tryz.prog l (enc x) W1 (Pm.Went (fun j => D j ∨ B ≤ j) (J B) (Jx B) W1 (c + 1))) →
    (∀ B W1, Below W.heap.size W W1 → W1.heap.size ≤ B → J B 0 W1) →
    Calls Tryz.prog F (#[.func (.yield l) #[] #[]] ++ caps) W fun e W' => (∃ v, e = .returned v) ∧ ∃ B, W.heap.size ≤ B ∧ (J B xs.length W' ∨ Jx B W')

set_option maxHeartbeats 1000000 in
/-- 'for .. := range it { .. }' over such a one: I, Ix are told from where on the rounds' own blocks lie. -/
theorem range_ib {α : Type} {a : Act} {w : World} {Q : Exit → Act → World → Prop} {g : Operand} {ps : Array Tmp} {assign body : Code} (F : FuncId) (eg : Enters Tryz.prog F) (caps : Array Value) (xs : List α) (enc : α → Array Value) (K : Nat → Prop)
    (hit : IterB F caps xs enc K w) (hg : a.eval g = .func (.func F) #[] caps) (hps : ∀ x ∈ xs, (enc x).size = ps.size) (hK : ∀ j, K j → j < w.heap.size)
    (D : Nat → Prop) (hDK : ∀ j, D j → ¬ K j) (hDlt : ∀ j, D j → j < w.heap.size)
    (I : Nat → Nat → World → Prop) (Ix : Nat → Code → World → Prop) (hI : ∀ B k W W', w.heap.size + 2 ≤ B → I B k W → Only (fun j => w.heap.size + 1 ≤ j ∧ j < B) W W' → I B k W') (hIx : ∀ B c W W', w.heap.size + 2 ≤ B → Ix B c W → Only (fun j => w.heap.size + 1 ≤ j ∧ j < B) W W' → Ix B c W') (h0 : ∀ B W, Below w.heap.size w W → W.heap.size ≤ B → I B 0 W)
    (hround : ∀ B c x W, w.heap.size + 2 ≤ B → xs[c]? = some x → I B c W → Pm.Same K w W → B ≤ W.heap.size →
      assign.wpIn (Fence.wide.inRound (w.heap.size + 1)) 4 Tryz.prog (Exit.then (fun a1 W1 => Only (fun j => D j ∨ B ≤ j) W W1 ∧ ∀ W2, Only (fun j => j = w.heap.size + 1) W1 W2 → body.wpIn (Fence.wide.inRound (w.heap.size + 1)) 4 Tryz.prog (rpost (fun j => D j ∨ B ≤ j) (I B) (Ix B) W2 (c + 1)) a1 W2) (fun _ _ _ => False))
        { tmps := (ps.zip (enc x)).foldl (fun t (p, v) => t.setIfInBounds p v) a.tmps, defers := [] } W)
    (hdone : ∀ B W, w.heap.size + 2 ≤ B → I B xs.length W → w.heap.size < W.heap.size → W.heap[w.heap.size]? = some (.deferred (some [])) → Q .normal { a with defers := { target := .collected w.heap.size, args := #[] } :: a.defers } W)
    (hstop : ∀ B c W, w.heap.size + 2 ≤ B → Ix B c W → w.heap.size < W.heap.size → W.heap[w.heap.size]? = some (.deferred (some [])) → c.wp Tryz.prog Q { a with defers := { target := .collected w.heap.size, args := #[] } :: a.defers } W) :
    (Code.rangeFunc g ps assign body).wp Tryz.prog Q a w := by
  have hD0 : ¬ D w.heap.size := fun d => by have := hDlt _ d; omega
  have hD1 : ¬ D (w.heap.size + 1) := fun d => by have := hDlt _ d; omega
  refine (wpIn_wide (n := 6)).1 (wpIn_rangeFunc (fun fn _ => ?_))
  obtain ⟨rec, hrec⟩ : ∃ rec : LoopState → Option Code → Loop, rec = fun st pe => { state := st, pending := pe, fn := fn, tmps := a.tmps, params := ps, assign := assign, body := body, defers := w.heap.size } := ⟨_, rfl⟩
  obtain ⟨W1, hW1⟩ : ∃ W1, (w.alloc (.deferred (some []))).alloc (.loop (rec .ready none)) = W1 := ⟨_, rfl⟩
  obtain ⟨m0, m1⟩ := new2 w (.deferred (some [])) (.loop (rec .ready none))
  rw [hW1] at m0 m1
  have hb1 : Below w.heap.size w W1 := by rw [← hW1]; exact ((Below.refl _ w).alloc (Nat.le_refl _) _).alloc (by simp) _
  have hs1 : W1.heap.size = w.heap.size + 2 := by rw [← hW1]; simp
  have toOnly : ∀ {A B : World}, Below A.heap.size A B → Only (fun j => j = w.heap.size + 1) A B := fun h => below_only h
  have hK1 : Pm.Same K w W1 := fun j hj => hb1.block j (hK j hj)
  refine ⟨w.heap.size + 1, [{ target := .collected w.heap.size, args := #[] }], W1, { target := .fn (.func F) caps, args := #[.func (.yield (w.heap.size + 1)) #[] #[]] }, W1, F,
    #[.func (.yield (w.heap.size + 1)) #[] #[]] ++ caps, W1, ?_, ?_, fun _ _ => trivial, ?_, fun _ => by omega, ?_⟩
  · rw [← hW1, hrec]; exact run_enterLoop_outer _ _ _ _ _
  · simp only [resolve, hg]
    simp [go_sem]
  · have eg' := fun args w => eg args w
    simp [invoke, go_sem, eg']
  · refine callsIn_wide.2 ((hit (w.heap.size + 1) (fun j => D j ∨ j = w.heap.size + 1)
      (fun B k W => I B k W ∧ W.heap[w.heap.size + 1]? = some (.loop (rec .ready none)) ∧ W.heap[w.heap.size]? = some (.deferred (some [])))
      (fun B W => ∃ c, Ix B c W ∧ W.heap[w.heap.size + 1]? = some (.loop (rec .done (some c))) ∧ W.heap[w.heap.size]? = some (.deferred (some []))) W1 hK1 (by omega)
      (fun j e => e.elim (hDK j) (fun e k => by have := hK j k; omega)) (fun j e => by rw [hs1]; exact e.elim (fun e => Nat.lt_of_lt_of_le (hDlt j e) (by omega)) (fun e => by omega))
      (fun B k W W' hB hj ho => by
        rw [hs1] at hB ho
        exact ⟨hI B k W W' hB hj.1 (ho.mono (fun j _ e => by have e' : w.heap.size + 2 ≤ j ∧ j < B := e; exact ⟨by omega, by omega⟩)), (ho.block _ (Array.getElem?_eq_some_iff.1 hj.2.1).1 (fun e => by have e' : w.heap.size + 2 ≤ w.heap.size + 1 ∧ w.heap.size + 1 < B := e; omega)).trans hj.2.1, (ho.block _ (Array.getElem?_eq_some_iff.1 hj.2.2).1 (fun e => by have e' : w.heap.size + 2 ≤ w.heap.size ∧ w.heap.size < B := e; omega)).trans hj.2.2⟩)
      (fun B W W' hB hj ho => by
        rw [hs1] at hB ho
        obtain ⟨c, hj⟩ := hj
        exact ⟨c, hIx B c W W' hB hj.1 (ho.mono (fun j _ e => by have e' : w.heap.size + 2 ≤ j ∧ j < B := e; exact ⟨by omega, by omega⟩)), (ho.block _ (Array.getElem?_eq_some_iff.1 hj.2.1).1 (fun e => by have e' : w.heap.size + 2 ≤ w.heap.size + 1 ∧ w.heap.size + 1 < B := e; omega)).trans hj.2.1, (ho.block _ (Array.getElem?_eq_some_iff.1 hj.2.2).1 (fun e => by have e' : w.heap.size + 2 ≤ w.heap.size ∧ w.heap.size < B := e; omega)).trans hj.2.2⟩) ?_ ?_).mono ?_)
    · rintro B k x W hB hx ⟨hi, hl, hk⟩ hSK hsz
      rw [hs1] at hB
      have hy := run_yield (P := Tryz.prog) (args := enc x) hl (by rw [hrec]; exact hps x (List.mem_of_getElem? hx))
      rw [hrec] at hy
      refine ⟨fn, _, assign, body, hy, roundIn_of_wpIn trivial (wpIn_mono (hround B k x W hB hx hi hSK hsz) ?_)⟩
      rintro e a1 Wa hp
      cases e with
      | normal =>
        obtain ⟨hoa, hbody⟩ := hp
        have hE0 : ¬ (D w.heap.size ∨ B ≤ w.heap.size) := fun e => e.elim hD0 (fun e => by omega)
        have hE1 : ¬ (D (w.heap.size + 1) ∨ B ≤ w.heap.size + 1) := fun e => e.elim hD1 (fun e => by omega)
        have hla : Wa.heap[w.heap.size + 1]? = some (.loop (rec .ready none)) := (hoa.block _ (Array.getElem?_eq_some_iff.1 hl).1 hE1).trans hl
        have hka : Wa.heap[w.heap.size]? = some (.deferred (some [])) := (hoa.block _ (Array.getElem?_eq_some_iff.1 hk).1 hE0).trans hk
        refine ⟨_, run_beginRound hla (by rw [hrec]), ?_⟩
        have hlta := (Array.getElem?_eq_some_iff.1 hla).1
        have hl2 : (Wa.putObj (w.heap.size + 1) (.loop { rec .ready none with state := .busy })).heap[w.heap.size + 1]? = some (.loop { rec .ready none with state := .busy }) := World.putObj_heap_same hlta
        have hk2 : (Wa.putObj (w.heap.size + 1) (.loop { rec .ready none with state := .busy })).heap[w.heap.size]? = some (.deferred (some [])) := (World.putObj_heap_other (by omega)).trans hka
        have hT : ∀ {A A' : World}, Only (fun j => D j ∨ B ≤ j) A A' → Only (fun j => (D j ∨ j = w.heap.size + 1) ∨ B ≤ j) A A' := fun h => h.mono (fun _ _ e => e.elim (fun e => .inl (.inl e)) .inr)
        have hT2 : ∀ {A A' : World}, Only (fun j => j = w.heap.size + 1) A A' → Only (fun j => (D j ∨ j = w.heap.size + 1) ∨ B ≤ j) A A' := fun h => h.mono (fun _ _ e => .inl (.inr e))
        have hTw := (hT hoa).next (hT2 (only_putObj Wa (w.heap.size + 1) (.loop { rec .ready none with state := .busy })))
        refine wpIn_mono (hbody _ (only_putObj Wa _ _)) ?_
        have fin : ∀ (jump : Option Code) (W3 : World), Only (fun j => D j ∨ B ≤ j) (Wa.putObj (w.heap.size + 1) (.loop { rec .ready none with state := .busy })) W3 → ∃ W4, (Instr.endRound (w.heap.size + 1) jump).run Tryz.prog W3 = .ok (.bool jump.isNone) W4 ∧ Only (fun j => j = w.heap.size + 1) W3 W4 ∧
            W4.heap[w.heap.size + 1]? = some (.loop (rec (if jump.isNone then .ready else .done) jump)) ∧ W4.heap[w.heap.size]? = some (.deferred (some [])) ∧ Only (fun j => (D j ∨ j = w.heap.size + 1) ∨ B ≤ j) W W4 := fun jump W3 ho3 => by
          have hl3 := (ho3.block _ (by simpa using hlta) hE1).trans hl2
          have hk3 := (ho3.block _ (by simp; omega) hE0).trans hk2
          have := run_endRound (P := Tryz.prog) jump hl3
          refine ⟨_, this, only_putObj W3 _ _, ?_, (World.putObj_heap_other (by omega)).trans hk3, (hTw.next (hT ho3)).next (hT2 (only_putObj W3 _ _))⟩
          rw [World.putObj_heap_same (Array.getElem?_eq_some_iff.1 hl3).1, hrec]
        rintro e a3 W3 hp3
        cases e with
        | normal =>
          obtain ⟨ho3, hi3⟩ := hp3
          obtain ⟨W4, hr, ho4, hl4, hk4, hL4⟩ := fin none W3 ho3
          exact ⟨_, _, hr, hL4, .inl ⟨rfl, hI B _ _ _ hB hi3 (ho4.mono (fun j _ e => by have e' : j = w.heap.size + 1 := e; exact ⟨by omega, by omega⟩)), hl4, hk4⟩⟩
        | ret =>
          obtain ⟨ho3, hi3⟩ := hp3
          obtain ⟨W4, hr, ho4, hl4, hk4, hL4⟩ := fin (some .ret) W3 ho3
          exact ⟨_, _, hr, hL4, .inr ⟨rfl, .ret, hIx B _ _ _ hB hi3 (ho4.mono (fun j _ e => by have e' : j = w.heap.size + 1 := e; exact ⟨by omega, by omega⟩)), hl4, hk4⟩⟩
        | exit id =>
          obtain ⟨ho3, hi3⟩ := hp3
          obtain ⟨W4, hr, ho4, hl4, hk4, hL4⟩ := fin (some (.exit id)) W3 ho3
          exact ⟨_, _, hr, hL4, .inr ⟨rfl, .exit id, hIx B _ _ _ hB hi3 (ho4.mono (fun j _ e => by have e' : j = w.heap.size + 1 := e; exact ⟨by omega, by omega⟩)), hl4, hk4⟩⟩
        | goto t =>
          obtain ⟨ho3, hi3⟩ := hp3
          obtain ⟨W4, hr, ho4, hl4, hk4, hL4⟩ := fin (some (.goto t)) W3 ho3
          exact ⟨_, _, hr, hL4, .inr ⟨rfl, .goto t, hIx B _ _ _ hB hi3 (ho4.mono (fun j _ e => by have e' : j = w.heap.size + 1 := e; exact ⟨by omega, by omega⟩)), hl4, hk4⟩⟩
        | panic ch => exact hp3.elim
        | outgrown => exact hp3.elim
      | ret => exact hp.elim
      | exit id => exact hp.elim
      | goto t => exact hp.elim
      | panic ch => exact hp.elim
      | outgrown => exact hp.elim
    · intro B W hb hB
      rw [hs1] at hb
      have hb' : Below w.heap.size w W := hb1.trans (hb.mono (by omega))
      exact ⟨h0 B W hb' hB, (hb.block _ (by omega)).trans m1, (hb.block _ (by omega)).trans m0⟩
    · rintro e W2 ⟨⟨v, rfl⟩, B, hB, (⟨hi, hl, hk⟩ | ⟨c, hi, hl, hk⟩)⟩
      · rw [hs1] at hB
        have hlt := (Array.getElem?_eq_some_iff.1 hk).1
        refine ⟨none, _, by have := run_endLoop (P := Tryz.prog) hl (by rw [hrec]; simp); rw [hrec] at this; exact this, hdone B _ hB (hI B _ _ _ hB hi ((only_putObj _ _ _).mono (fun j _ e => by have e' : j = w.heap.size + 1 := e; exact ⟨by omega, by omega⟩))) (by simpa using hlt) ((World.putObj_heap_other (by omega)).trans hk)⟩
      · rw [hs1] at hB
        have hlt := (Array.getElem?_eq_some_iff.1 hk).1
        refine ⟨some c, _, by have := run_endLoop (P := Tryz.prog) hl (by rw [hrec]; simp); rw [hrec] at this; exact this, wpIn_wide.2 (hstop B c _ hB (hIx B _ _ _ hB hi ((only_putObj _ _ _).mono (fun j _ e => by have e' : j = w.heap.size + 1 := e; exact ⟨by omega, by omega⟩))) (by simpa using hlt) ((World.putObj_heap_other (by omega)).trans hk))⟩
end Go.Proofs.YtkeldhohilmdcaaGreat
