/-
  WHAT AN ITERATOR IS (it hands over a list, one behind the other, whatever the rounds do), and a law for the statement 'for .. := range it { .. }'. It names no function of the program.
-/
import Derived.Test.YtkeldhohilmdcaaGreatPFrom
namespace Go.Proofs.YtkeldhohilmdcaaGreat.Pm
open Go.RowKit Go.Shelf
set_option linter.unusedSimpArgs false
attribute [local go_sem] Oper.semAt_some

/-- The blocks of K are as they were. -/
def Same (K : Nat → Prop) (w W : World) : Prop := ∀ j, K j → W.heap[j]? = w.heap[j]?
/-- F, with what it has caught, hands over xs. It lays two blocks of its own first. -/
def Iter {α : Type} (F : FuncId) (caps : Array Value) (xs : List α) (enc : α → Array Value) (K : Nat → Prop) (w : World) : Prop :=
  ∀ (l : Nat) (D : Nat → Prop) (J : Nat → World → Prop) (Jx : World → Prop) (W : World), Same K w W → w.heap.size ≤ W.heap.size → (∀ j, D j → ¬ K j) → ¬ D W.heap.size → ¬ D (W.heap.size + 1) →
    (∀ c W1 W2, J c W1 → Below W1.heap.size W1 W2 → J c W2) →
    (∀ c x W1, xs[c]? = some x → J c W1 → Same K w W1 → W.heap.size + 2 ≤ W1.heap.size → YieldAt Fence.wide 4 Tryz.prog l (enc x) W1 (Went D J Jx W1 (c + 1))) → J 0 W →
    Calls Tryz.prog F (#[.func (.yield l) #[] #[]] ++ caps) W fun e W' => (∃ v, e = .returned v) ∧ (J xs.length W' ∨ Jx W')

theorem Same.only {D K : Nat → Prop} {w W W' : World} (h : Same K w W) (hK : ∀ j, K j → j < w.heap.size) (hs : w.heap.size ≤ W.heap.size) (ho : Only D W W') (hD : ∀ j, D j → ¬ K j) : Same K w W' := fun j hj =>
  (ho.block j (Nat.lt_of_lt_of_le (hK j hj) hs) (fun d => hD j d hj)).trans (h j hj)

set_option maxHeartbeats 1000000 in
/-- 'for .. := range it { .. }': D holds the blocks that a round may turn; I is what holds between rounds, Ix where one has left by a jump. -/
theorem range_it {α : Type} {a : Act} {w : World} {Q : Exit → Act → World → Prop} {g : Operand} {ps : Array Tmp} {assign body : Code} (F : FuncId) (eg : Enters Tryz.prog F) (caps : Array Value) (xs : List α) (enc : α → Array Value) (K : Nat → Prop)
    (hit : Iter F caps xs enc K w) (hg : a.eval g = .func (.func F) #[] caps) (hps : ∀ x ∈ xs, (enc x).size = ps.size) (hK : ∀ j, K j → j < w.heap.size)
    (D : Nat → Prop) (hDK : ∀ j, D j → ¬ K j) (hD0 : ¬ D w.heap.size) (hD1 : ¬ D (w.heap.size + 1)) (hD2 : ¬ D (w.heap.size + 2)) (hD3 : ¬ D (w.heap.size + 3))
    (I : Nat → World → Prop) (Ix : Code → World → Prop) (hI : ∀ k W W', I k W → Only (fun j => j = w.heap.size + 1) W W' → I k W') (hIx : ∀ c W W', Ix c W → Only (fun j => j = w.heap.size + 1) W W' → Ix c W') (h0 : I 0 w)
    (hround : ∀ c x W, xs[c]? = some x → I c W → Same K w W → w.heap.size + 4 ≤ W.heap.size →
      assign.wpIn (Fence.wide.inRound (w.heap.size + 1)) 4 Tryz.prog (Exit.then (fun a1 W1 => Only D W W1 ∧ ∀ W2, Only (fun j => j = w.heap.size + 1) W1 W2 → body.wpIn (Fence.wide.inRound (w.heap.size + 1)) 4 Tryz.prog (rpost D I Ix W2 (c + 1)) a1 W2) (fun _ _ _ => False))
        { tmps := (ps.zip (enc x)).foldl (fun t (p, v) => t.setIfInBounds p v) a.tmps, defers := [] } W)
    (hdone : ∀ W, I xs.length W → w.heap.size < W.heap.size → W.heap[w.heap.size]? = some (.deferred (some [])) → Q .normal { a with defers := { target := .collected w.heap.size, args := #[] } :: a.defers } W)
    (hstop : ∀ c W, Ix c W → w.heap.size < W.heap.size → W.heap[w.heap.size]? = some (.deferred (some [])) → c.wp Tryz.prog Q { a with defers := { target := .collected w.heap.size, args := #[] } :: a.defers } W) :
    (Code.rangeFunc g ps assign body).wp Tryz.prog Q a w := by
  refine (wpIn_wide (n := 6)).1 (wpIn_rangeFunc (fun fn _ => ?_))
  obtain ⟨rec, hrec⟩ : ∃ rec : LoopState → Option Code → Loop, rec = fun st pe => { state := st, pending := pe, fn := fn, tmps := a.tmps, params := ps, assign := assign, body := body, defers := w.heap.size } := ⟨_, rfl⟩
  obtain ⟨W1, hW1⟩ : ∃ W1, (w.alloc (.deferred (some []))).alloc (.loop (rec .ready none)) = W1 := ⟨_, rfl⟩
  obtain ⟨m0, m1⟩ := new2 w (.deferred (some [])) (.loop (rec .ready none))
  rw [hW1] at m0 m1
  have hb1 : Below w.heap.size w W1 := by rw [← hW1]; exact ((Below.refl _ w).alloc (Nat.le_refl _) _).alloc (by simp) _
  have hs1 : W1.heap.size = w.heap.size + 2 := by rw [← hW1]; simp
  have toOnly : ∀ {A B : World}, Below A.heap.size A B → Only (fun j => j = w.heap.size + 1) A B := fun h => below_only h
  have hK1 : Same K w W1 := fun j hj => hb1.block j (hK j hj)
  refine ⟨w.heap.size + 1, [{ target := .collected w.heap.size, args := #[] }], W1, { target := .fn (.func F) caps, args := #[.func (.yield (w.heap.size + 1)) #[] #[]] }, W1, F,
    #[.func (.yield (w.heap.size + 1)) #[] #[]] ++ caps, W1, ?_, ?_, fun _ _ => trivial, ?_, fun _ => by omega, ?_⟩
  · rw [← hW1, hrec]; exact run_enterLoop_outer _ _ _ _ _
  · simp only [resolve, hg]
    simp [go_sem]
  · have eg' := fun args w => eg args w
    simp [invoke, go_sem, eg']
  · refine callsIn_wide.2 ((hit (w.heap.size + 1) (fun j => D j ∨ j = w.heap.size + 1)
      (fun k W => I k W ∧ W.heap[w.heap.size + 1]? = some (.loop (rec .ready none)) ∧ W.heap[w.heap.size]? = some (.deferred (some [])))
      (fun W => ∃ c, Ix c W ∧ W.heap[w.heap.size + 1]? = some (.loop (rec .done (some c))) ∧ W.heap[w.heap.size]? = some (.deferred (some []))) W1 hK1 (by omega)
      (fun j e => e.elim (hDK j) (fun e k => by have := hK j k; omega)) (by rw [hs1]; exact fun e => e.elim hD2 (fun e => by omega)) (by rw [hs1]; exact fun e => e.elim hD3 (fun e => by omega))
      (fun k W W' hj hb => ⟨hI k W W' hj.1 (toOnly hb), (hb.block _ (Array.getElem?_eq_some_iff.1 hj.2.1).1).trans hj.2.1, (hb.block _ (Array.getElem?_eq_some_iff.1 hj.2.2).1).trans hj.2.2⟩) ?_ ⟨hI 0 w W1 h0 (toOnly hb1), m1, m0⟩).mono ?_)
    · rintro k x W hx ⟨hi, hl, hk⟩ hSK hsz
      rw [hs1] at hsz
      have hy := run_yield (P := Tryz.prog) (args := enc x) hl (by rw [hrec]; exact hps x (List.mem_of_getElem? hx))
      rw [hrec] at hy
      refine ⟨fn, _, assign, body, hy, roundIn_of_wpIn trivial (wpIn_mono (hround k x W hx hi hSK (by omega)) ?_)⟩
      rintro e a1 Wa hp
      cases e with
      | normal =>
        obtain ⟨hoa, hbody⟩ := hp
        have hla : Wa.heap[w.heap.size + 1]? = some (.loop (rec .ready none)) := (hoa.block _ (Array.getElem?_eq_some_iff.1 hl).1 hD1).trans hl
        have hka : Wa.heap[w.heap.size]? = some (.deferred (some [])) := (hoa.block _ (Array.getElem?_eq_some_iff.1 hk).1 hD0).trans hk
        refine ⟨_, run_beginRound hla (by rw [hrec]), ?_⟩
        have hlta := (Array.getElem?_eq_some_iff.1 hla).1
        have hl2 : (Wa.putObj (w.heap.size + 1) (.loop { rec .ready none with state := .busy })).heap[w.heap.size + 1]? = some (.loop { rec .ready none with state := .busy }) := World.putObj_heap_same hlta
        have hk2 : (Wa.putObj (w.heap.size + 1) (.loop { rec .ready none with state := .busy })).heap[w.heap.size]? = some (.deferred (some [])) := (World.putObj_heap_other (by omega)).trans hka
        have hT : ∀ {A B : World}, Only D A B → Only (fun j => D j ∨ j = w.heap.size + 1) A B := fun h => h.mono (fun _ _ e => .inl e)
        have hT2 : ∀ {A B : World}, Only (fun j => j = w.heap.size + 1) A B → Only (fun j => D j ∨ j = w.heap.size + 1) A B := fun h => h.mono (fun _ _ e => .inr e)
        have hTw := (hT hoa).next (hT2 (only_putObj Wa (w.heap.size + 1) (.loop { rec .ready none with state := .busy })))
        refine wpIn_mono (hbody _ (only_putObj Wa _ _)) ?_
        have fin : ∀ (jump : Option Code) (W3 : World), Only D (Wa.putObj (w.heap.size + 1) (.loop { rec .ready none with state := .busy })) W3 → ∃ W4, (Instr.endRound (w.heap.size + 1) jump).run Tryz.prog W3 = .ok (.bool jump.isNone) W4 ∧ Only (fun j => j = w.heap.size + 1) W3 W4 ∧
            W4.heap[w.heap.size + 1]? = some (.loop (rec (if jump.isNone then .ready else .done) jump)) ∧ W4.heap[w.heap.size]? = some (.deferred (some [])) ∧ Only (fun j => D j ∨ j = w.heap.size + 1) W W4 := fun jump W3 ho3 => by
          have hl3 := (ho3.block _ (by simpa using hlta) hD1).trans hl2
          have hk3 := (ho3.block _ (by simp; omega) hD0).trans hk2
          have := run_endRound (P := Tryz.prog) jump hl3
          refine ⟨_, this, only_putObj W3 _ _, ?_, (World.putObj_heap_other (by omega)).trans hk3, (hTw.next (hT ho3)).next (hT2 (only_putObj W3 _ _))⟩
          rw [World.putObj_heap_same (Array.getElem?_eq_some_iff.1 hl3).1, hrec]
        rintro e a3 W3 hp3
        cases e with
        | normal =>
          obtain ⟨ho3, hi3⟩ := hp3
          obtain ⟨W4, hr, ho4, hl4, hk4, hL4⟩ := fin none W3 ho3
          exact ⟨_, _, hr, hL4, .inl ⟨rfl, hI _ _ _ hi3 ho4, hl4, hk4⟩⟩
        | ret =>
          obtain ⟨ho3, hi3⟩ := hp3
          obtain ⟨W4, hr, ho4, hl4, hk4, hL4⟩ := fin (some .ret) W3 ho3
          exact ⟨_, _, hr, hL4, .inr ⟨rfl, .ret, hIx _ _ _ hi3 ho4, hl4, hk4⟩⟩
        | exit id =>
          obtain ⟨ho3, hi3⟩ := hp3
          obtain ⟨W4, hr, ho4, hl4, hk4, hL4⟩ := fin (some (.exit id)) W3 ho3
          exact ⟨_, _, hr, hL4, .inr ⟨rfl, .exit id, hIx _ _ _ hi3 ho4, hl4, hk4⟩⟩
        | goto t =>
          obtain ⟨ho3, hi3⟩ := hp3
          obtain ⟨W4, hr, ho4, hl4, hk4, hL4⟩ := fin (some (.goto t)) W3 ho3
          exact ⟨_, _, hr, hL4, .inr ⟨rfl, .goto t, hIx _ _ _ hi3 ho4, hl4, hk4⟩⟩
        | panic ch => exact hp3.elim
        | outgrown => exact hp3.elim
      | ret => exact hp.elim
      | exit id => exact hp.elim
      | goto t => exact hp.elim
      | panic ch => exact hp.elim
      | outgrown => exact hp.elim
    · rintro e W2 ⟨⟨v, rfl⟩, (⟨hi, hl, hk⟩ | ⟨c, hi, hl, hk⟩)⟩
      · have hlt := (Array.getElem?_eq_some_iff.1 hk).1
        refine ⟨none, _, by have := run_endLoop (P := Tryz.prog) hl (by rw [hrec]; simp); rw [hrec] at this; exact this, hdone _ (hI _ _ _ hi (only_putObj _ _ _)) (by simpa using hlt) ((World.putObj_heap_other (by omega)).trans hk)⟩
      · have hlt := (Array.getElem?_eq_some_iff.1 hk).1
        refine ⟨some c, _, by have := run_endLoop (P := Tryz.prog) hl (by rw [hrec]; simp); rw [hrec] at this; exact this, wpIn_wide.2 (hstop c _ (hIx _ _ _ hi (only_putObj _ _ _)) (by simpa using hlt) ((World.putObj_heap_other (by omega)).trans hk))⟩
end Go.Proofs.YtkeldhohilmdcaaGreat.Pm
