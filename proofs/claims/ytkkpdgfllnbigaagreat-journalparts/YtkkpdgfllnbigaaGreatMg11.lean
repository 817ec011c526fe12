/-
  register: a text that may be (81), a map that may be a register (42).
  ITERATORS THAT LAY BLOCKS OF THEIR OWN AND TURN THEM BETWEEN ROUNDS (they range over another iterator themselves), and the law for a range over one.
  register: All (49), what it goes over (108).
  TEXTS HELD AGAINST EACH OTHER: plainly (cmpB, cmpP), and what the program's and the document's functions answer.
  register: what is gathered over All (86, 88), Elements (43), Texts (44).
  register: what is gathered over All (86, 88).
  MAPS, as the program has them: Take, Split, Join, Make.
-/
import Derived.Test.YtkkpdgfllnbigaaGreatMg7
import Derived.Test.YtkkpdgfllnbigaaGreatMg10
import Derived.Scope
import Derived.Test.YtkkpdgfllnbigaaGreatMg6
namespace Go.Proofs.YtkkpdgfllnbigaaGreat
open Go.RowKit Go.Shelf
set_option linter.unusedSimpArgs false
attribute [local go_sem] Oper.semAt_some

abbrev Kv := ByteArray × ByteArray
/-- A stamp's key, a key's stamp. -/
def keyT (s : St) : ByteArray := keyS s.1 s.2.1 s.2.2.1 s.2.2.2.1 s.2.2.2.2
def ofT (k : ByteArray) : St := (kG k, kR k, kL k, kN k, kX k)
def stV (s : St) : Bool := stampV s.1 s.2.1 s.2.2.1 s.2.2.2.1 s.2.2.2.2
def txtB (t : ByteArray) : Bool := decide (t.size ≤ 256)
/-- A key and a value that may stand in a register. -/
def okKv (x : Kv) : Bool := okV x.1 && txtB x.2
def mayL (l : List Kv) : Bool := l.all okKv
theorem ofKeyT_any (k : ByteArray) (w : World) (hk : k.size ≤ 9223372036854775807) : Calls Tryz.prog 140 #[.string k] w fun e w' => e = .returned (.tuple #[svT (ofT k), .int .i64 (if okV k then 0 else 4)]) ∧ Below w.heap.size w w' := ofKey_any k w hk
theorem leave_tmp {fn : Func} {tmps : Array Value} {p : Tmp} {v : Value} {R : Ending → World → Prop} {W : World} (h : fn.results = #[.tmp p]) (hp : tmps.getD p undef = v) (hR : R (.returned v) W) : LeavesInM Fence.wide 6 Tryz.prog fn tmps R [] .returning W := by
  refine leave_none (v := v) ?_ hR
  simp only [Array.getD_eq_getD_getElem?] at hp
  simp [results, h, hp]
theorem new3r (w : World) (o1 o2 o3 : Obj) : (((w.alloc o1).alloc o2).alloc o3).heap[w.heap.size]? = some o1 ∧ (((w.alloc o1).alloc o2).alloc o3).heap[w.heap.size + 1]? = some o2 ∧ (((w.alloc o1).alloc o2).alloc o3).heap[w.heap.size + 2]? = some o3 ∧ Below w.heap.size w (((w.alloc o1).alloc o2).alloc o3) := by
  obtain ⟨m0, m1⟩ := new2 w o1 o2
  have hc : Below ((w.alloc o1).alloc o2).heap.size ((w.alloc o1).alloc o2) (((w.alloc o1).alloc o2).alloc o3) := (Below.refl _ _).alloc (Nat.le_refl _) _
  have h2 := heap_alloc_new ((w.alloc o1).alloc o2) o3
  rw [show ((w.alloc o1).alloc o2).heap.size = w.heap.size + 2 from by simp] at h2
  exact ⟨(hc.block _ (gI m0).1).trans m0, (hc.block _ (gI m1).1).trans m1, h2, (((Below.refl _ w).alloc (Nat.le_refl _) _).alloc (by simp) _).alloc (by simp; omega) _⟩
theorem enters202 : Enters Tryz.prog 202 := enters_of Tryz.func202 (by kernel_rfl) rfl
/-- A range over a map's iterator, also left by a break. -/
theorem range_mb {α : Type} {a : Act} {w : World} {Q : Exit → Act → World → Prop} {g : Operand} {ps : Array Tmp} {assign body : Code} (id : Nat) (F : FuncId) (eg : Enters Tryz.prog F) (caps : Array Value) (xs : List α) (enc : α → Array Value) (K : Nat → Prop)
    (hit : Pm.Iter F caps xs enc K w) (hg : a.eval g = .func (.func F) #[] caps) (hps : ∀ x ∈ xs, (enc x).size = ps.size) (hK : ∀ j, K j → j < w.heap.size)
    (D : Nat → Prop) (hDK : ∀ j, D j → ¬ K j) (hDlt : ∀ j, D j → j < w.heap.size)
    (I : Nat → World → Prop) (Ix J : World → Prop) (hI : ∀ k W W', I k W → Only (fun j => j = w.heap.size + 1) W W' → I k W') (hIx : ∀ W W', Ix W → Only (fun j => j = w.heap.size + 1) W W' → Ix W') (h0 : I 0 w)
    (hround : ∀ c x W, xs[c]? = some x → I c W → Pm.Same K w W → w.heap.size + 4 ≤ W.heap.size →
      assign.wpIn (Fence.wide.inRound (w.heap.size + 1)) 4 Tryz.prog (Exit.then (fun a1 W1 => Only D W W1 ∧ ∀ W2, Only (fun j => j = w.heap.size + 1) W1 W2 → body.wpIn (Fence.wide.inRound (w.heap.size + 1)) 4 Tryz.prog (rpost D I (fun cd W => cd = .exit id ∧ Ix W) W2 (c + 1)) a1 W2) (fun _ _ _ => False))
        { tmps := (ps.zip (enc x)).foldl (fun t (p, v) => t.setIfInBounds p v) a.tmps, defers := [] } W)
    (hQ : ∀ a W, Q .normal a W → Q (.exit id) a W) (hJ1 : ∀ W, I xs.length W → J W) (hJ2 : ∀ W, Ix W → J W)
    (hdone : ∀ W, J W → w.heap.size < W.heap.size → W.heap[w.heap.size]? = some (.deferred (some [])) → Q .normal { a with defers := { target := .collected w.heap.size, args := #[] } :: a.defers } W) :
    (Code.rangeFunc g ps assign body).wp Tryz.prog Q a w := by
  refine Pm.range_it (Q := Q) F eg caps xs enc K hit hg hps hK D hDK (fun d => by have := hDlt _ d; omega) (fun d => by have := hDlt _ d; omega) (fun d => by have := hDlt _ d; omega) (fun d => by have := hDlt _ d; omega) I (fun cd W => cd = .exit id ∧ Ix W) hI (fun c W W' h k => ⟨h.1, hIx W W' h.2 k⟩) h0 hround ?_ ?_
  · intro W hi hs hk
    exact hdone W (hJ1 W hi) hs hk
  · rintro c W ⟨rfl, hi⟩ hs hk
    exact wp_exit (hQ _ _ (hdone W (hJ2 W hi) hs hk))
/-- The first k may stand. -/
def AllOk (l : List Kv) (k : Nat) : Prop := ∀ j x, j < k → l[j]? = some x → okKv x = true
/-- What stands between rounds: a bool of its own. -/
def BI (wA : World) (Mb : Nat) (b : Bool) (W : World) : Prop := Only (fun j => j = Mb) wA W ∧ W.heap[Mb]? = some (.cells #[.bool b] 4 (0, 0))
theorem BI.other {wA : World} {Nb : Nat} {b : Bool} {W W' : World} (h : BI wA Nb b W) (hN : Nb < wA.heap.size) (ho : Only (fun j => j = wA.heap.size + 1) W W') : BI wA Nb b W' :=
  ⟨h.1.trans ho (fun j hj e => by have e' : j = wA.heap.size + 1 := e; omega), (ho.block _ (gI h.2).1 (by omega)).trans h.2⟩

end Go.Proofs.YtkkpdgfllnbigaaGreat
namespace Go.Proofs.YtkkpdgfllnbigaaGreat
open Go.RowKit Go.Shelf
set_option linter.unusedSimpArgs false
attribute [local go_sem] Oper.semAt_some

/-- F, with what it has caught, hands over xs. Between rounds it may turn the blocks from W's end to B alone; the rounds may turn D's and those from B on. -/
def IterB {α : Type} (F : FuncId) (caps : Array Value) (xs : List α) (enc : α → Array Value) (K : Nat → Prop) (w : World) : Prop :=
  ∀ (l : Nat) (D : Nat → Prop) (J : Nat → Nat → World → Prop) (Jx : Nat → World → Prop) (W : World), Pm.Same K w W → w.heap.size ≤ W.heap.size → (∀ j, D j → ¬ K j) → (∀ j, D j → j < W.heap.size) →
    (∀ B c W1 W2, W.heap.size ≤ B → J B c W1 → Only (fun j => W.heap.size ≤ j ∧ j < B) W1 W2 → J B c W2) →
    (∀ B W1 W2, W.heap.size ≤ B → Jx B W1 → Only (fun j => W.heap.size ≤ j ∧ j < B) W1 W2 → Jx B W2) →
    (∀ B c x W1, W.heap.size ≤ B → xs[c]? = some x → J B c W1 → Pm.Same K w W1 → B ≤ W1.heap.size → YieldAt Fence.wide 4 Tryz.prog l (enc x) W1 (Pm.Went (fun j => D j ∨ B ≤ j) (J B) (Jx B) W1 (c + 1))) →
    (∀ B W1, Below W.heap.size W W1 → W1.heap.size ≤ B → J B 0 W1) →
    Calls Tryz.prog F (#[.func (.yield l) #[] #[]] ++ caps) W fun e W' => (∃ v, e = .returned v) ∧ ∃ B, W.heap.size ≤ B ∧ (J B xs.length W' ∨ Jx B W')

set_option maxHeartbeats 1000000 in
/-- 'for .. := range it { .. }' over such a one: I, Ix are told from where on the rounds' own blocks lie. -/
theorem range_ib {α : Type} {a : Act} {w : World} {Q : Exit → Act → World → Prop} {g : Operand} {ps : Array Tmp} {assign body : Code} (F : FuncId) (eg : Enters Tryz.prog F) (caps : Array Value) (xs : List α) (enc : α → Array Value) (K : Nat → Prop)
    (hit : IterB F caps xs enc K w) (hg : a.eval g = .func (.func F) #[] caps) (hps : ∀ x ∈ xs, (enc x).size = ps.size) (hK : ∀ j, K j → j < w.heap.size)
    (D : Nat → Prop) (hDK : ∀ j, D j → ¬ K j) (hDlt : ∀ j, D j → j < w.heap.size)
    (I : Nat → Nat → World → Prop) (Ix : Nat → Code → World → Prop) (hI : ∀ B k W W', w.heap.size + 2 ≤ B → I B k W → Only (fun j => w.heap.size + 1 ≤ j ∧ j < B) W W' → I B k W') (hIx : ∀ B c W W', w.heap.size + 2 ≤ B → Ix B c W → Only (fun j => w.heap.size + 1 ≤ j ∧ j < B) W W' → Ix B c W') (h0 : ∀ B W, Below w.heap.size w W → W.heap.size ≤ B → I B 0 W)
    (hround : ∀ B c x W, w.heap.size + 2 ≤ B → xs[c]? = some x → I B c W → Pm.Same K w W → B ≤ W.heap.size →
      assign.wpIn (Fence.wide.inRound (w.heap.size + 1)) 4 Tryz.prog (Exit.then (fun a1 W1 => Only (fun j => D j ∨ B ≤ j) W W1 ∧ ∀ W2, Only (fun j => j = w.heap.size + 1) W1 W2 → body.wpIn (Fence.wide.inRound (w.heap.size + 1)) 4 Tryz.prog (rpost (fun j => D j ∨ B ≤ j) (I B) (Ix B) W2 (c + 1)) a1 W2) (fun _ _ _ => False))
        { tmps := (ps.zip (enc x)).foldl (fun t (p, v) => t.setIfInBounds p v) a.tmps, defers := [] } W)
    (hdone : ∀ B W, w.heap.size + 2 ≤ B → I B xs.length W → w.heap.size < W.heap.size → W.heap[w.heap.size]? = some (.deferred (some [])) → Q .normal { a with defers := { target := .collected w.heap.size, args := #[] } :: a.defers } W)
    (hstop : ∀ B c W, w.heap.size + 2 ≤ B → Ix B c W → w.heap.size < W.heap.size → W.heap[w.heap.size]? = some (.deferred (some [])) → c.wp Tryz.prog Q { a with defers := { target := .collected w.heap.size, args := #[] } :: a.defers } W) :
    (Code.rangeFunc g ps assign body).wp Tryz.prog Q a w := by
  have hD0 : ¬ D w.heap.size := fun d => by have := hDlt _ d; omega
  have hD1 : ¬ D (w.heap.size + 1) := fun d => by have := hDlt _ d; omega
  refine (wpIn_wide (n := 6)).1 (wpIn_rangeFunc (fun fn _ => ?_))
  obtain ⟨rec, hrec⟩ : ∃ rec : LoopState → Option Code → Loop, rec = fun st pe => { state := st, pending := pe, fn := fn, tmps := a.tmps, params := ps, assign := assign, body := body, defers := w.heap.size } := ⟨_, rfl⟩
  obtain ⟨W1, hW1⟩ : ∃ W1, (w.alloc (.deferred (some []))).alloc (.loop (rec .ready none)) = W1 := ⟨_, rfl⟩
  obtain ⟨m0, m1⟩ := new2 w (.deferred (some [])) (.loop (rec .ready none))
  rw [hW1] at m0 m1
  have hb1 : Below w.heap.size w W1 := by rw [← hW1]; exact ((Below.refl _ w).alloc (Nat.le_refl _) _).alloc (by simp) _
  have hs1 : W1.heap.size = w.heap.size + 2 := by rw [← hW1]; simp
  have toOnly : ∀ {A B : World}, Below A.heap.size A B → Only (fun j => j = w.heap.size + 1) A B := fun h => below_only h
  have hK1 : Pm.Same K w W1 := fun j hj => hb1.block j (hK j hj)
  refine ⟨w.heap.size + 1, [{ target := .collected w.heap.size, args := #[] }], W1, { target := .fn (.func F) caps, args := #[.func (.yield (w.heap.size + 1)) #[] #[]] }, W1, F,
    #[.func (.yield (w.heap.size + 1)) #[] #[]] ++ caps, W1, ?_, ?_, fun _ _ => trivial, ?_, fun _ => by omega, ?_⟩
  · rw [← hW1, hrec]; exact run_enterLoop_outer _ _ _ _ _
  · simp only [resolve, hg]
    simp [go_sem]
  · have eg' := fun args w => eg args w
    simp [invoke, go_sem, eg']
  · refine callsIn_wide.2 ((hit (w.heap.size + 1) (fun j => D j ∨ j = w.heap.size + 1)
      (fun B k W => I B k W ∧ W.heap[w.heap.size + 1]? = some (.loop (rec .ready none)) ∧ W.heap[w.heap.size]? = some (.deferred (some [])))
      (fun B W => ∃ c, Ix B c W ∧ W.heap[w.heap.size + 1]? = some (.loop (rec .done (some c))) ∧ W.heap[w.heap.size]? = some (.deferred (some []))) W1 hK1 (by omega)
      (fun j e => e.elim (hDK j) (fun e k => by have := hK j k; omega)) (fun j e => by rw [hs1]; exact e.elim (fun e => Nat.lt_of_lt_of_le (hDlt j e) (by omega)) (fun e => by omega))
      (fun B k W W' hB hj ho => by
        rw [hs1] at hB ho
        exact ⟨hI B k W W' hB hj.1 (ho.mono (fun j _ e => by have e' : w.heap.size + 2 ≤ j ∧ j < B := e; exact ⟨by omega, by omega⟩)), (ho.block _ (gI hj.2.1).1 (fun e => by have e' : w.heap.size + 2 ≤ w.heap.size + 1 ∧ w.heap.size + 1 < B := e; omega)).trans hj.2.1, (ho.block _ (gI hj.2.2).1 (fun e => by have e' : w.heap.size + 2 ≤ w.heap.size ∧ w.heap.size < B := e; omega)).trans hj.2.2⟩)
      (fun B W W' hB hj ho => by
        rw [hs1] at hB ho
        obtain ⟨c, hj⟩ := hj
        exact ⟨c, hIx B c W W' hB hj.1 (ho.mono (fun j _ e => by have e' : w.heap.size + 2 ≤ j ∧ j < B := e; exact ⟨by omega, by omega⟩)), (ho.block _ (gI hj.2.1).1 (fun e => by have e' : w.heap.size + 2 ≤ w.heap.size + 1 ∧ w.heap.size + 1 < B := e; omega)).trans hj.2.1, (ho.block _ (gI hj.2.2).1 (fun e => by have e' : w.heap.size + 2 ≤ w.heap.size ∧ w.heap.size < B := e; omega)).trans hj.2.2⟩) ?_ ?_).mono ?_)
    · rintro B k x W hB hx ⟨hi, hl, hk⟩ hSK hsz
      rw [hs1] at hB
      have hy := run_yield (P := Tryz.prog) (args := enc x) hl (by rw [hrec]; exact hps x (List.mem_of_getElem? hx))
      rw [hrec] at hy
      refine ⟨fn, _, assign, body, hy, roundIn_of_wpIn trivial (wpIn_mono (hround B k x W hB hx hi hSK hsz) ?_)⟩
      rintro e a1 Wa hp
      cases e with
      | normal =>
        obtain ⟨hoa, hbody⟩ := hp
        have hE0 : ¬ (D w.heap.size ∨ B ≤ w.heap.size) := fun e => e.elim hD0 (fun e => by omega)
        have hE1 : ¬ (D (w.heap.size + 1) ∨ B ≤ w.heap.size + 1) := fun e => e.elim hD1 (fun e => by omega)
        have hla : Wa.heap[w.heap.size + 1]? = some (.loop (rec .ready none)) := (hoa.block _ (gI hl).1 hE1).trans hl
        have hka : Wa.heap[w.heap.size]? = some (.deferred (some [])) := (hoa.block _ (gI hk).1 hE0).trans hk
        refine ⟨_, run_beginRound hla (by rw [hrec]), ?_⟩
        have hlta := (gI hla).1
        have hl2 : (Wa.putObj (w.heap.size + 1) (.loop { rec .ready none with state := .busy })).heap[w.heap.size + 1]? = some (.loop { rec .ready none with state := .busy }) := World.putObj_heap_same hlta
        have hk2 : (Wa.putObj (w.heap.size + 1) (.loop { rec .ready none with state := .busy })).heap[w.heap.size]? = some (.deferred (some [])) := (World.putObj_heap_other (by omega)).trans hka
        have hT : ∀ {A A' : World}, Only (fun j => D j ∨ B ≤ j) A A' → Only (fun j => (D j ∨ j = w.heap.size + 1) ∨ B ≤ j) A A' := fun h => h.mono (fun _ _ e => e.elim (fun e => .inl (.inl e)) .inr)
        have hT2 : ∀ {A A' : World}, Only (fun j => j = w.heap.size + 1) A A' → Only (fun j => (D j ∨ j = w.heap.size + 1) ∨ B ≤ j) A A' := fun h => h.mono (fun _ _ e => .inl (.inr e))
        have hTw := (hT hoa).next (hT2 (only_putObj Wa (w.heap.size + 1) (.loop { rec .ready none with state := .busy })))
        refine wpIn_mono (hbody _ (only_putObj Wa _ _)) ?_
        have fin : ∀ (jump : Option Code) (W3 : World), Only (fun j => D j ∨ B ≤ j) (Wa.putObj (w.heap.size + 1) (.loop { rec .ready none with state := .busy })) W3 → ∃ W4, (Instr.endRound (w.heap.size + 1) jump).run Tryz.prog W3 = .ok (.bool jump.isNone) W4 ∧ Only (fun j => j = w.heap.size + 1) W3 W4 ∧
            W4.heap[w.heap.size + 1]? = some (.loop (rec (if jump.isNone then .ready else .done) jump)) ∧ W4.heap[w.heap.size]? = some (.deferred (some [])) ∧ Only (fun j => (D j ∨ j = w.heap.size + 1) ∨ B ≤ j) W W4 := fun jump W3 ho3 => by
          have hl3 := (ho3.block _ (by simpa using hlta) hE1).trans hl2
          have hk3 := (ho3.block _ (by simp; omega) hE0).trans hk2
          have := run_endRound (P := Tryz.prog) jump hl3
          refine ⟨_, this, only_putObj W3 _ _, ?_, (World.putObj_heap_other (by omega)).trans hk3, (hTw.next (hT ho3)).next (hT2 (only_putObj W3 _ _))⟩
          rw [World.putObj_heap_same (gI hl3).1, hrec]
        rintro e a3 W3 hp3
        cases e with
        | normal =>
          obtain ⟨ho3, hi3⟩ := hp3
          obtain ⟨W4, hr, ho4, hl4, hk4, hL4⟩ := fin none W3 ho3
          exact ⟨_, _, hr, hL4, .inl ⟨rfl, hI B _ _ _ hB hi3 (ho4.mono (fun j _ e => by have e' : j = w.heap.size + 1 := e; exact ⟨by omega, by omega⟩)), hl4, hk4⟩⟩
        | ret =>
          obtain ⟨ho3, hi3⟩ := hp3
          obtain ⟨W4, hr, ho4, hl4, hk4, hL4⟩ := fin (some .ret) W3 ho3
          exact ⟨_, _, hr, hL4, .inr ⟨rfl, .ret, hIx B _ _ _ hB hi3 (ho4.mono (fun j _ e => by have e' : j = w.heap.size + 1 := e; exact ⟨by omega, by omega⟩)), hl4, hk4⟩⟩
        | exit id =>
          obtain ⟨ho3, hi3⟩ := hp3
          obtain ⟨W4, hr, ho4, hl4, hk4, hL4⟩ := fin (some (.exit id)) W3 ho3
          exact ⟨_, _, hr, hL4, .inr ⟨rfl, .exit id, hIx B _ _ _ hB hi3 (ho4.mono (fun j _ e => by have e' : j = w.heap.size + 1 := e; exact ⟨by omega, by omega⟩)), hl4, hk4⟩⟩
        | goto t =>
          obtain ⟨ho3, hi3⟩ := hp3
          obtain ⟨W4, hr, ho4, hl4, hk4, hL4⟩ := fin (some (.goto t)) W3 ho3
          exact ⟨_, _, hr, hL4, .inr ⟨rfl, .goto t, hIx B _ _ _ hB hi3 (ho4.mono (fun j _ e => by have e' : j = w.heap.size + 1 := e; exact ⟨by omega, by omega⟩)), hl4, hk4⟩⟩
        | panic ch => exact hp3.elim
        | outgrown => exact hp3.elim
      | ret => exact hp.elim
      | exit id => exact hp.elim
      | goto t => exact hp.elim
      | panic ch => exact hp.elim
      | outgrown => exact hp.elim
    · intro B W hb hB
      rw [hs1] at hb
      have hb' : Below w.heap.size w W := hb1.trans (hb.mono (by omega))
      exact ⟨h0 B W hb' hB, (hb.block _ (by omega)).trans m1, (hb.block _ (by omega)).trans m0⟩
    · rintro e W2 ⟨⟨v, rfl⟩, B, hB, (⟨hi, hl, hk⟩ | ⟨c, hi, hl, hk⟩)⟩
      · rw [hs1] at hB
        have hlt := (gI hk).1
        refine ⟨none, _, by have := run_endLoop (P := Tryz.prog) hl (by rw [hrec]; simp); rw [hrec] at this; exact this, hdone B _ hB (hI B _ _ _ hB hi ((only_putObj _ _ _).mono (fun j _ e => by have e' : j = w.heap.size + 1 := e; exact ⟨by omega, by omega⟩))) (by simpa using hlt) ((World.putObj_heap_other (by omega)).trans hk)⟩
      · rw [hs1] at hB
        have hlt := (gI hk).1
        refine ⟨some c, _, by have := run_endLoop (P := Tryz.prog) hl (by rw [hrec]; simp); rw [hrec] at this; exact this, wpIn_wide.2 (hstop B c _ hB (hIx B _ _ _ hB hi ((only_putObj _ _ _).mono (fun j _ e => by have e' : j = w.heap.size + 1 := e; exact ⟨by omega, by omega⟩))) (by simpa using hlt) ((World.putObj_heap_other (by omega)).trans hk))⟩
end Go.Proofs.YtkkpdgfllnbigaaGreat
namespace Go.Proofs.YtkkpdgfllnbigaaGreat
open Go.RowKit Go.Shelf
set_option linter.unusedSimpArgs false
attribute [local go_sem] Oper.semAt_some

/-- The elements that a map has. -/
def elsM (l : List Kv) : List El := l.map fun x => (ofT x.1, x.2)
/-- The elements that are gone over. -/
def elsL (l : List Kv) : List El := if mayL l = true then elsM l else []
def encS (x : El) : Array Value := #[svT x.1, .string x.2]
theorem roundIn_in {l' m m' : Nat} {P : Program} {l : Nat} {f : FuncId} {tmps : Array Value} {assign body : Code} {w : World} {R : Ending → World → Prop}
    (h : RoundIn Fence.wide m P l f tmps assign body w R) : RoundIn (Fence.wide.inRound l') m' P l f tmps assign body w R := ⟨h.1, fun c cs _ => h.2 c cs (fun d hd => by cases hd)⟩
theorem ret_lv {fn : Func} {R : Ending → World → Prop} {a : Act} {w : World} (h : LeavesInM Fence.wide 6 Tryz.prog fn a.tmps R a.defers .returning w) : noPanic (bodyPostM Fence.wide 6 Tryz.prog fn R) .ret a w := h
theorem leave_unit {fn : Func} {tmps : Array Value} {R : Ending → World → Prop} {W : World} (h : fn.results = #[]) (hR : R (.returned (.tuple #[])) W) : LeavesInM Fence.wide 6 Tryz.prog fn tmps R [] .returning W := by
  refine leave_none (v := .tuple #[]) ?_ hR
  simp [results, h]

end Go.Proofs.YtkkpdgfllnbigaaGreat
namespace Go.Proofs.YtkkpdgfllnbigaaGreat
open Go.RowKit Go.Shelf
set_option linter.unusedSimpArgs false

/-- Behind this address lie the texts l. -/
def Rs (w : World) (ao : Option Addr) (l : List ByteArray) : Prop :=
  (ao = none → l = []) ∧ ∀ a, ao = some a → ∀ j s, l[j]? = some s → w.cell? (a.add j) = some (.string s)
theorem Rs.at {w : World} {ao : Option Addr} {l : List ByteArray} (h : Rs w ao l) {k : Nat} {s : ByteArray} (hs : l[k]? = some s) : ∃ ab off, ao = some ⟨ab, off, none⟩ ∧ w.cell? ⟨ab, off + k, none⟩ = some (.string s) := by
  cases ao with
  | none => have := h.1 rfl; subst this; simp at hs
  | some a =>
    obtain ⟨ab, off, sp⟩ := a
    have hl : 0 < l.length := by have := (List.getElem?_eq_some_iff.1 hs).1; omega
    have h0 := h.2 _ rfl 0 l[0] (List.getElem?_eq_getElem hl)
    simp only [Addr.add, if_true] at h0
    have e : sp = none := World.cell?_spot h0
    subst e
    have hk := h.2 _ rfl k s hs
    rw [add_lit] at hk
    exact ⟨ab, off, rfl, hk⟩
theorem Rs.only {C : Nat → Prop} {w w' : World} {ao : Option Addr} {l : List ByteArray} (hr : Rs w ao l) (h : Only C w w') (hC : ∀ a, ao = some a → ¬ C a.block) : Rs w' ao l :=
  ⟨hr.1, fun a ha j u hj => h.cell (hr.2 a ha j u hj) (by
    have : (a.add j).block = a.block := by unfold Addr.add; split <;> rfl
    rw [this]; exact hC a ha)⟩
theorem Rs.below {w w' : World} {ao : Option Addr} {l : List ByteArray} (h : Rs w ao l) (hb : Below w.heap.size w w') : Rs w' ao l := h.only (Only.ofBelow hb) (fun _ _ d => d.elim)
theorem Rs.drew {w : World} {ao : Option Addr} {l : List ByteArray} (h : Rs w ao l) : Rs w.drew ao l := h.below (Below.refl _ w).drew
theorem Rs.nil (w : World) (ao : Option Addr) : Rs w ao [] := ⟨fun _ => rfl, by simp⟩
theorem Rs.take {w : World} {ao : Option Addr} {l : List ByteArray} (h : Rs w ao l) (k : Nat) : Rs w ao (l.take k) :=
  ⟨fun ha => by rw [h.1 ha]; simp, fun a ha j u hj => h.2 a ha j u (by
    rw [List.getElem?_take] at hj
    split at hj
    · exact hj
    · cases hj)⟩

end Go.Proofs.YtkkpdgfllnbigaaGreat
namespace Go.Proofs.YtkkpdgfllnbigaaGreat
open Go.RowKit Go.Shelf
set_option linter.unusedSimpArgs false
attribute [local go_sem] Oper.semAt_some

def Ot (w : World) (B : Nat) (v : Value) (L : List ByteArray) : Prop := w.ownsRow B 9 1 v L.length (L.map Value.string)
theorem Ot.nil (w : World) (B : Nat) : Ot w B (.slice none 0 0) [] := World.ownsRow_nil _ _ _ _
theorem Ot.only {w w' : World} {B : Nat} {v : Value} {L : List ByteArray} {D : Nat → Prop} (h : Ot w B v L) (ho : Only D w w') (hv : ∀ k, v.ownBlock = some k → ¬ D k) : Ot w' B v L := ho.row h hv
theorem Ot.below {w w' : World} {B : Nat} {v : Value} {L : List ByteArray} (h : Ot w B v L) (hb : Below w.heap.size w w') : Ot w' B v L := h.only (Only.ofBelow hb) (fun _ _ d => d.elim)
theorem info9t : (Tryz.prog.info? 9).map (fun i => (i.zero, i.size, i.bytes)) = some (some (.string ⟨#[]⟩), 1, 16) := by kernel_rfl
theorem strs_one {l : List ByteArray} (v : Value) (h : v ∈ l.map Value.string) : v.oneCell' = true := by
  obtain ⟨s, -, rfl⟩ := List.mem_map.1 h; rfl
/-- One is laid behind. -/
theorem push_Oe {w : World} {B b : Nat} {v : Value} {p : List El} {y : El} (hown : Oe w B v p) (hcell : w.heap[b]? = some (.cells (encE y).toArray 53 (0, 0))) (hp : p.length + 1 ≤ 1000000) (hB : B ≤ w.heap.size) :
    ∃ a' c' w', (Builtin.append_ #[22, 22] 22 #[v, .slice (some ⟨b, 0, none⟩) 1 1]).run Tryz.prog w = .ok (.slice a' (p.length + 1) c') w' ∧ Oe w' B (.slice a' (p.length + 1) c') (p ++ [y]) ∧ Only (fun k => v.ownBlock = some k) w w' := by
  obtain ⟨i0, hi, hz0, hz1, hz2⟩ := info_of info77
  obtain ⟨v', w', hr, h2, h3, _⟩ := run_append_own (P := Tryz.prog) w B 22 22 53 i0 zeroE 6 64 Tryz.underlying22 hi hz0 hz1 hz2 rfl (by decide) v p.length (flatE p) hown ⟨b, 0, none⟩ 1 1 (encE y) (by simp [encE]) (fun j u hj => by rw [add_lit, cell_of_row _ _ (0 + j) (encE y).toArray 53 (0, 0) hcell, Nat.zero_add]; simpa using hj) (fun u hu => flatE_one [y] u (by simpa [flatE] using hu)) (by unfold maxLen; omega) (by omega) hB
  have hO : Oe w' B v' (p ++ [y]) := by
    unfold Oe
    rw [flatE_app, List.length_append, show flatE [y] = encE y by simp [flatE]]
    exact h2
  obtain ⟨a', c', hv, _, _⟩ := row_form hO
  subst hv
  rw [List.length_append] at hO hr
  exact ⟨a', c', w', hr, hO, Only.ofGrown h3⟩
theorem push_Ot {w : World} {B b : Nat} {v : Value} {p : List ByteArray} {y : ByteArray} (hown : Ot w B v p) (hcell : w.heap[b]? = some (.cells #[.string y] 9 (0, 0))) (hp : p.length + 1 ≤ 1000000) (hB : B ≤ w.heap.size) :
    ∃ a' c' w', (Builtin.append_ #[63, 63] 63 #[v, .slice (some ⟨b, 0, none⟩) 1 1]).run Tryz.prog w = .ok (.slice a' (p.length + 1) c') w' ∧ Ot w' B (.slice a' (p.length + 1) c') (p ++ [y]) ∧ Only (fun k => v.ownBlock = some k) w w' := by
  obtain ⟨i0, hi, hz0, hz1, hz2⟩ := info_of info9t
  obtain ⟨v', w', hr, h2, h3, _⟩ := run_append_own (P := Tryz.prog) w B 63 63 9 i0 (.string ⟨#[]⟩) 1 16 Tryz.underlying63 hi hz0 hz1 hz2 rfl (by decide) v p.length (p.map Value.string) hown ⟨b, 0, none⟩ 1 1 [.string y] (by simp) (fun j u hj => by rw [add_lit, cell_of_row _ _ (0 + j) #[.string y] 9 (0, 0) hcell, Nat.zero_add]; simpa using hj) (fun u hu => strs_one (l := [y]) u (by simpa using hu)) (by unfold maxLen; omega) (by omega) hB
  have hO : Ot w' B v' (p ++ [y]) := by
    unfold Ot
    rw [List.map_append, List.length_append]
    exact h2
  obtain ⟨a', c', hv, _, _⟩ := row_form hO
  subst hv
  rw [List.length_append] at hO hr
  exact ⟨a', c', w', hr, hO, Only.ofGrown h3⟩
theorem exec_bs53 {ev' : Operand → Value} {x : Operand} {T : TypeId} {w : World} {y : El} (hx : ev' x = ev y) : (execOp ev' { dst := none, op := .buildSlice 22 1 #[(0, x)], type := T, pos := "", after := #[], guard := none }).run Tryz.prog w = .ok (.value (.slice (some ⟨w.heap.size, 0, none⟩) 1 1)) (w.alloc (.cells (encE y).toArray 53)) := by
  unfold execOp
  simp only [hx]
  go_simp
  rfl
theorem exec_bs9 {ev' : Operand → Value} {x : Operand} {T : TypeId} {w : World} {y : ByteArray} (hx : ev' x = .string y) : (execOp ev' { dst := none, op := .buildSlice 63 1 #[(0, x)], type := T, pos := "", after := #[], guard := none }).run Tryz.prog w = .ok (.value (.slice (some ⟨w.heap.size, 0, none⟩) 1 1)) (w.alloc (.cells #[.string y] 9)) := by
  unfold execOp
  simp only [hx]
  go_simp
theorem exec_st22 {ev' : Operand → Value} {x y : Operand} {T : TypeId} {w : World} {B : Nat} {u : Value} {n c : Nat} {ad : Option Addr} (hx : ev' x = .pointer (some ⟨B, 0, none⟩)) (hy : ev' y = .slice ad n c) (h : w.cell? ⟨B, 0, none⟩ = some u) (hf : w.frozen? ⟨B, 0, none⟩ = false) : (execOp ev' { dst := none, op := .store 22 x y, type := T, pos := "", after := #[], guard := none }).run Tryz.prog w = .ok .skip (w.setCell ⟨B, 0, none⟩ (.slice ad n c)) := by
  unfold execOp
  simp only [hx, hy]
  go_simp
theorem exec_st63 {ev' : Operand → Value} {x y : Operand} {T : TypeId} {w : World} {B : Nat} {u : Value} {n c : Nat} {ad : Option Addr} (hx : ev' x = .pointer (some ⟨B, 0, none⟩)) (hy : ev' y = .slice ad n c) (h : w.cell? ⟨B, 0, none⟩ = some u) (hf : w.frozen? ⟨B, 0, none⟩ = false) : (execOp ev' { dst := none, op := .store 63 x y, type := T, pos := "", after := #[], guard := none }).run Tryz.prog w = .ok .skip (w.setCell ⟨B, 0, none⟩ (.slice ad n c)) := by
  unfold execOp
  simp only [hx, hy]
  go_simp
/-- A reading operation and a call come up together in a region that draws its order. -/
theorem load_call_op {P : Program} {md : Region.Mode} {ops : Array Oper} {Q : Exit → Act → World → Prop} {S : World → Prop} {i j : Nat} {oi oj : Oper} {di dj : Tmp} {OPi OPj : Op} {Ti Tj : TypeId} {f : FuncId} {args : Array Value} {u : Value} {fuel : Nat} {listed : Array Bool} {a : Act} {w : World}
    (hi : ops[i]? = some oi) (hdi : oi.dst = some di) (hoi : oi.op = OPi) (hti : oi.type = Ti) (hj : ops[j]? = some oj) (hdj : oj.dst = some dj) (hoj : oj.op = OPj) (htj : oj.type = Tj)
    (hr : Region.ready md ops listed = [i, j]) (hwi : Region.wanted oi (yielded ops a.tmps) = true) (hwj : Region.wanted oj (yielded ops a.tmps) = true)
    (hyi : (execOp a.eval { dst := none, op := OPi, type := Ti, pos := "", after := #[], guard := none }).run P w = .ok (.value u) w)
    (hyj : (execOp a.eval { dst := none, op := OPj, type := Tj, pos := "", after := #[], guard := none }).run P w = .ok (.enter f args) w)
    (hS : S w)
    (h1 : wpAnyH P md ops Q S fuel (listed.setIfInBounds i true) (a.put (some di) u) w) (h2 : Calls P f args w fun e w1 => ∃ v, e = .returned v ∧ S w1 ∧ wpAnyH P md ops Q S fuel (listed.setIfInBounds j true) (a.put (some dj) v) w1) : wpAnyH P md ops Q S (fuel + 1) listed a w := by
  refine wpAnyH_ready hr (by simp) (AllReadyH.cons hi (fun K hK => ?_) (AllReadyH.cons hj (fun K hK => ?_) AllReadyH.nil))
  · rw [if_pos hwi]
    unfold Oper.wp
    rw [exec_same a.eval oi hoi hti, hyi]
    show K (a.put oi.dst u) w
    rw [hdi]
    exact hK.out _ _ hS (fun _ => h1)
  · rw [if_pos hwj]
    unfold Oper.wp
    rw [exec_same a.eval oj hoj htj, hyj]
    refine Calls.mono h2 ?_
    rintro e w1 ⟨v, rfl, hS, hx⟩
    show K (a.put oj.dst v) w1
    rw [hdj]
    exact hK.out _ _ hS (fun _ => hx)
end Go.Proofs.YtkkpdgfllnbigaaGreat
namespace Go.Proofs.YtkkpdgfllnbigaaGreat
open Go.RowKit Go.Shelf
set_option linter.unusedSimpArgs false
attribute [local go_sem] Oper.semAt_some

/-- What stands between rounds. -/
structure GIE (wA : World) (Lb B : Nat) (p : List El) (W : World) : Prop where
  only : Only (fun j => j = Lb ∨ B ≤ j) wA W
  box : ∃ ao c, W.heap[Lb]? = some (.cells #[.slice ao p.length c] 22 (0, 0)) ∧ Oe W B (.slice ao p.length c) p
theorem GIE.own {wA : World} {Lb B : Nat} {p : List El} {W W' : World} (h : GIE wA Lb B p W) (hL : Lb < wA.heap.size) (_hB : wA.heap.size + 2 ≤ B) (ho : Only (fun j => wA.heap.size + 1 ≤ j ∧ j < B) W W') : GIE wA Lb B p W' := by
  obtain ⟨ao, c, hb, hO⟩ := h.box
  refine ⟨h.only.trans ho (fun j hj e => by have e' : wA.heap.size + 1 ≤ j ∧ j < B := e; omega), ao, c, (ho.block _ (gI hb).1 (fun e => by have e' : wA.heap.size + 1 ≤ Lb ∧ Lb < B := e; omega)).trans hb, hO.only ho (fun k hk e => by have := World.ownsRow.lt hO k hk; have e' : wA.heap.size + 1 ≤ k ∧ k < B := e; omega)⟩
theorem Ot.lift {w : World} {B B' : Nat} {v : Value} {L : List ByteArray} (h : Ot w B v L) (hB : B' ≤ B) : Ot w B' v L := by
  rcases h with ⟨h1, h2⟩
  refine ⟨h1, ?_⟩
  rcases h2 with h2 | ⟨g, cap, cur, e, hb, r⟩
  · exact .inl h2
  · exact .inr ⟨g, cap, cur, e, Nat.le_trans hB hb, r⟩
/-- What stands between rounds. -/
structure GIS (wA : World) (Lb B : Nat) (p : List ByteArray) (W : World) : Prop where
  only : Only (fun j => j = Lb ∨ B ≤ j) wA W
  box : ∃ ao c, W.heap[Lb]? = some (.cells #[.slice ao p.length c] 63 (0, 0)) ∧ Ot W B (.slice ao p.length c) p
theorem GIS.own {wA : World} {Lb B : Nat} {p : List ByteArray} {W W' : World} (h : GIS wA Lb B p W) (hL : Lb < wA.heap.size) (_hB : wA.heap.size + 2 ≤ B) (ho : Only (fun j => wA.heap.size + 1 ≤ j ∧ j < B) W W') : GIS wA Lb B p W' := by
  obtain ⟨ao, c, hb, hO⟩ := h.box
  refine ⟨h.only.trans ho (fun j hj e => by have e' : wA.heap.size + 1 ≤ j ∧ j < B := e; omega), ao, c, (ho.block _ (gI hb).1 (fun e => by have e' : wA.heap.size + 1 ≤ Lb ∧ Lb < B := e; omega)).trans hb, hO.only ho (fun k hk e => by have := World.ownsRow.lt hO k hk; have e' : wA.heap.size + 1 ≤ k ∧ k < B := e; omega)⟩
end Go.Proofs.YtkkpdgfllnbigaaGreat
namespace Go.Proofs.YtkkpdgfllnbigaaGreat.Pm
open Go.RowKit Go.Shelf
set_option linter.unusedSimpArgs false

set_option maxHeartbeats 1000000 in
theorem mTake_any (t : T) (k : ByteArray) (w : World) (h : In w t) (hn : t.n ≤ 700000) : Calls Tryz.prog 131 #[mv t, .string k] w fun e w' => ∃ t', e = .returned (mv t') ∧ In w' t' ∧ Takes w.heap.size k t t' ∧ Below w.heap.size w w' := by
  obtain ⟨hb, hc, hf⟩ := two_boxes w t.ptr
  have hB := (new2 w (.cells #[t.ptr] 27) (.cells #[.pointer none] 27)).2
  have hp := take_any t.n t k _ (Nat.le_refl _) (In.below hb h) hn
  have key : ∀ w1 t', Gives ((w.alloc (.cells #[t.ptr] 27)).alloc (.cells #[.pointer none] 27)) (.returned t'.ptr) w1 t' → Takes ((w.alloc (.cells #[t.ptr] 27)).alloc (.cells #[.pointer none] 27)).heap.size k t t' →
      w1.cell? ⟨w.heap.size + 1, 0, none⟩ = some (.pointer none) ∧ w1.frozen? ⟨w.heap.size + 1, 0, none⟩ = false ∧ Hid ((w1.setCell ⟨w.heap.size + 1, 0, none⟩ t'.ptr).heap[w.heap.size + 1]? = some (.cells #[t'.ptr] 27 (0, 0)) ∧ In (w1.setCell ⟨w.heap.size + 1, 0, none⟩ t'.ptr) t' ∧ Takes w.heap.size k t t' ∧ Below w.heap.size w (w1.setCell ⟨w.heap.size + 1, 0, none⟩ t'.ptr)) := fun w1 t' hg hp => by
    have hw1 := (hg.2.2.block (w.heap.size + 1) (by simp)).trans hB
    have hb1 := hb.trans (hg.2.2.mono hb.size)
    obtain ⟨o1, o2, o3⟩ := out_box (y := t'.ptr) hw1 (by omega) hb1
    refine ⟨by rw [cell_of_row _ _ 0 _ 27 (0, 0) hw1]; rfl, frozen_of_row _ _ 0 _ 27 hw1, hide ⟨o1, In.aside hw1 o3 hg.2.1, hp.mono hb.size, o2⟩⟩
  unfold mv
  obtain ⟨a, ha⟩ := t.ptr_shape
  rw [ha] at hp hb key ⊢
  have HK := hide key
  clear h ha hb hc hf key hB hn
  go_enter Tryz.func131, Tryz.ntmps131
  go_wp2_with (go_at_call 183; refine hp.mono ?_; rintro e w1 ⟨t', hg, hpp⟩; have he := hg.1; subst he; obtain ⟨q1, q2, HQ⟩ := HK.out w1 t' hg hpp; obtain ⟨b, hb⟩ := t'.ptr_shape; have HX := hide hb; rw [hb] at HQ ⊢; clear hb hg hpp)
  refine ret_row (w.heap.size + 1) [.pointer b] rfl rfl Tryz.underlying27 rfl Tryz.info27 HQ.out.1 rfl ?_
  exact ⟨t', by rw [HX.out], HQ.out.2.1, HQ.out.2.2.1, HQ.out.2.2.2⟩

/-- Two structs out of their blocks, and two values between them, are handed back. -/
theorem ret_rows4 {P : Program} {fn : Func} {p q s r : Tmp} {ty : TypeId} (b c : Nat) (cs ds : List Value) {R : Ending → World → Prop} {a : Act} {w : World} (h : fn.results = #[.cell p ty, .tmp q, .tmp s, .cell r ty]) (hp : a.tmps.getD p undef = .pointer (some ⟨b, 0, none⟩)) {v u : Value} (hq : a.tmps.getD q undef = v) (hs : a.tmps.getD s undef = u) (hr : a.tmps.getD r undef = .pointer (some ⟨c, 0, none⟩))
    {d : TypeDesc} (hu : P.underlying ty = some d) (hd : d.isRow = true) (hi : (P.info? ty).map (·.size) = some cs.length) (hi2 : (P.info? ty).map (·.size) = some ds.length) {t t2 : TypeId} {fr fr2 : Nat × Nat} (hc : w.heap[b]? = some (.cells cs.toArray t fr)) (hc2 : w.heap[c]? = some (.cells ds.toArray t2 fr2)) (hdef : a.defers = [])
    (hR : R (.returned (.tuple #[.agg cs.toArray, v, u, .agg ds.toArray])) w) : bodyPost P fn R .ret a w := by
  refine bodyPost_ret (v := .tuple #[.agg cs.toArray, v, u, .agg ds.toArray]) ?_ hdef hR
  have h1 := run_loadVar_mid (P := P) w b 0 ty cs _ (fun j v hv => by rw [cell_of_row w b (0 + j) cs.toArray t fr hc, Nat.zero_add]; simpa using hv) hu hd hi
  have h2 := run_loadVar_mid (P := P) w c 0 ty ds _ (fun j v hv => by rw [cell_of_row w c (0 + j) ds.toArray t2 fr2 hc2, Nat.zero_add]; simpa using hv) hu hd hi2
  have hp' : a.tmps[p]?.getD undef = .pointer (some ⟨b, 0, none⟩) := by simpa using hp
  have hr' : a.tmps[r]?.getD undef = .pointer (some ⟨c, 0, none⟩) := by simpa using hr
  have hq' : a.tmps[q]?.getD undef = v := by simpa using hq
  have hs' : a.tmps[s]?.getD undef = u := by simpa using hs
  simp [results, h, hp', hq', hs', hr', asAddr, Sem.run_bind, Result.andThen, h1, h2]

theorem new3 (w : World) (o1 o2 o3 : Obj) : (((w.alloc o1).alloc o2).alloc o3).heap[w.heap.size]? = some o1 ∧ (((w.alloc o1).alloc o2).alloc o3).heap[w.heap.size + 1]? = some o2 ∧ (((w.alloc o1).alloc o2).alloc o3).heap[w.heap.size + 1 + 1]? = some o3 ∧ Below w.heap.size w (((w.alloc o1).alloc o2).alloc o3) := by
  obtain ⟨h1, h2⟩ := new2 w o1 o2
  have s2 : ((w.alloc o1).alloc o2).heap.size = w.heap.size + 1 + 1 := by simp
  refine ⟨(Below.heap_alloc _ _ _ (by rw [s2]; omega)).trans h1, (Below.heap_alloc _ _ _ (by rw [s2]; omega)).trans h2, ?_, (((Below.refl _ w).alloc (Nat.le_refl _) _).alloc (by simp) _).alloc (by simp; omega) _⟩
  have := heap_alloc_new ((w.alloc o1).alloc o2) o3
  rw [s2] at this
  exact this

set_option maxHeartbeats 2000000 in
theorem mSplit_any (t : T) (k : ByteArray) (w : World) (h : In w t) (hn : t.n ≤ 700000) : Calls Tryz.prog 246 #[mv t, .string k] w fun e w' => ∃ a f b, e = .returned (.tuple #[mv a, .string f.val, .bool f.isSome, mv b]) ∧ Splits w.heap.size k t a f b ∧ In w' a ∧ In w' b ∧ Below w.heap.size w w' := by
  obtain ⟨m0, m1, m2, hb⟩ := new3 w (.cells #[t.ptr] 27) (.cells #[.pointer none] 27) (.cells #[.pointer none] 27)
  have hp := split_any k t _ (In.below hb h) hn
  have key : ∀ w1 a f b, Splits (((w.alloc (.cells #[t.ptr] 27)).alloc (.cells #[.pointer none] 27)).alloc (.cells #[.pointer none] 27)).heap.size k t a f b → In w1 a → In w1 f → In w1 b → Below (((w.alloc (.cells #[t.ptr] 27)).alloc (.cells #[.pointer none] 27)).alloc (.cells #[.pointer none] 27)).heap.size (((w.alloc (.cells #[t.ptr] 27)).alloc (.cells #[.pointer none] 27)).alloc (.cells #[.pointer none] 27)) w1 →
      w1.cell? ⟨w.heap.size + 1, 0, none⟩ = some (.pointer none) ∧ w1.frozen? ⟨w.heap.size + 1, 0, none⟩ = false ∧ (w1.setCell ⟨w.heap.size + 1, 0, none⟩ a.ptr).cell? ⟨w.heap.size + 1 + 1, 0, none⟩ = some (.pointer none) ∧ (w1.setCell ⟨w.heap.size + 1, 0, none⟩ a.ptr).frozen? ⟨w.heap.size + 1 + 1, 0, none⟩ = false ∧
      Hid (((w1.setCell ⟨w.heap.size + 1, 0, none⟩ a.ptr).setCell ⟨w.heap.size + 1 + 1, 0, none⟩ b.ptr).heap[w.heap.size + 1]? = some (.cells #[a.ptr] 27 (0, 0)) ∧ ((w1.setCell ⟨w.heap.size + 1, 0, none⟩ a.ptr).setCell ⟨w.heap.size + 1 + 1, 0, none⟩ b.ptr).heap[w.heap.size + 1 + 1]? = some (.cells #[b.ptr] 27 (0, 0)) ∧
        In ((w1.setCell ⟨w.heap.size + 1, 0, none⟩ a.ptr).setCell ⟨w.heap.size + 1 + 1, 0, none⟩ b.ptr) a ∧ In ((w1.setCell ⟨w.heap.size + 1, 0, none⟩ a.ptr).setCell ⟨w.heap.size + 1 + 1, 0, none⟩ b.ptr) b ∧ Splits w.heap.size k t a f b ∧ Below w.heap.size w ((w1.setCell ⟨w.heap.size + 1, 0, none⟩ a.ptr).setCell ⟨w.heap.size + 1 + 1, 0, none⟩ b.ptr)) ∧
      Calls Tryz.prog 120 #[f.ptr] w1 (fun e w' => e = .returned (.string f.val) ∧ w' = w1) := fun w1 a f b hs ia if_ ib hb1 => by
    have hw1 := (hb1.block (w.heap.size + 1) (by simp)).trans m1
    have hw2 := (hb1.block (w.heap.size + 1 + 1) (by simp)).trans m2
    have hbb := hb.trans (hb1.mono hb.size)
    obtain ⟨o1, o2, o3⟩ := out_box (y := a.ptr) hw1 (by omega) hbb
    have hw2' := (o3.block (w.heap.size + 1 + 1) (gI hw2).1 (by omega)).trans hw2
    obtain ⟨p1, p2, p3⟩ := out_box (y := b.ptr) hw2' (by omega) o2
    have o1' := (p3.block (w.heap.size + 1) (gI o1).1 (by omega)).trans o1
    exact ⟨by rw [cell_of_row _ _ 0 _ 27 (0, 0) hw1]; rfl, frozen_of_row _ _ 0 _ 27 hw1, by rw [cell_of_row _ _ 0 _ 27 (0, 0) hw2']; rfl, frozen_of_row _ _ 0 _ 27 hw2', hide ⟨o1', p1, In.aside hw2' p3 (In.aside hw1 o3 ia), In.aside hw2' p3 (In.aside hw1 o3 ib), hs.mono hb.size, p2⟩, value_any f w1 if_⟩
  unfold mv
  obtain ⟨x, hx⟩ := t.ptr_shape
  rw [hx] at hp hb key ⊢
  have HK := hide key
  clear h hx hb key hn m0 m1 m2
  go_enter Tryz.func246, Tryz.ntmps246
  go_wp2_with (first
    | (go_at_call 265; refine hp.mono ?_; rintro e w1 ⟨a, f, b, rfl, hs, ia, if_, ib, hb1⟩; obtain ⟨q1, q2, q3, q4, HQ, hv⟩ := HK.out w1 a f b hs ia if_ ib hb1; obtain ⟨xa, ha⟩ := a.ptr_shape; obtain ⟨xf, hf⟩ := f.ptr_shape; obtain ⟨xb, hb⟩ := b.ptr_shape; have hi := (isSome_ptr hf).2; rw [ha, hb] at HQ; rw [ha] at q3 q4; rw [hf] at hv; rw [ha, hf, hb]; have HX := hide (And.intro ha (And.intro hf hb)); clear ha hf hb hs ia if_ ib hb1)
    | (go_at_call 120; refine hv.mono ?_; rintro e w' ⟨rfl, hw⟩; replace hw := hw.symm; subst hw))
  refine ret_rows4 (w.heap.size + 1) (w.heap.size + 1 + 1) [.pointer xa] [.pointer xb] rfl rfl rfl rfl rfl Tryz.underlying27 rfl Tryz.info27 Tryz.info27 HQ.out.1 HQ.out.2.1 rfl ?_
  refine ⟨a, f, b, ?_, HQ.out.2.2.2.2.1, HQ.out.2.2.1, HQ.out.2.2.2.1, HQ.out.2.2.2.2.2⟩
  rw [HX.out.1, HX.out.2.2]
  simp [hi]

set_option maxHeartbeats 2000000 in
theorem mJoin_any (l r : T) (k : ByteArray) (v : ByteArray) (w : World) (hl : In w l) (hr : In w r) (hn : l.n + r.n ≤ 700000) : Calls Tryz.prog 247 #[mv l, .string k, .string v, mv r] w fun e w' => ∃ t, e = .returned (.tuple #[mv t, .int .i64 (if fitsB l k r then 0 else 2)]) ∧ (fitsB l k r = false → t = .nil) ∧ (fitsB l k r = true → Joined w.heap.size k v l r t) ∧ In w' t ∧ Below w.heap.size w w' := by
  obtain ⟨m0, m1, m2, hb⟩ := new3 w (.cells #[l.ptr] 27) (.cells #[r.ptr] 27) (.cells #[.pointer none] 27)
  have hf := fits_any l r k _ (In.below hb hl) (In.below hb hr)
  have hj := join_any k v 800000 l r _ (by omega) (by omega) (In.below hb hl) (In.below hb hr)
  have key : ∀ w1 t, Gives (((w.alloc (.cells #[l.ptr] 27)).alloc (.cells #[r.ptr] 27)).alloc (.cells #[.pointer none] 27)) (.returned t.ptr) w1 t → Joined (((w.alloc (.cells #[l.ptr] 27)).alloc (.cells #[r.ptr] 27)).alloc (.cells #[.pointer none] 27)).heap.size k v l r t →
      w1.cell? ⟨w.heap.size + 1 + 1, 0, none⟩ = some (.pointer none) ∧ w1.frozen? ⟨w.heap.size + 1 + 1, 0, none⟩ = false ∧ Hid ((w1.setCell ⟨w.heap.size + 1 + 1, 0, none⟩ t.ptr).heap[w.heap.size + 1 + 1]? = some (.cells #[t.ptr] 27 (0, 0)) ∧ In (w1.setCell ⟨w.heap.size + 1 + 1, 0, none⟩ t.ptr) t ∧ Joined w.heap.size k v l r t ∧ Below w.heap.size w (w1.setCell ⟨w.heap.size + 1 + 1, 0, none⟩ t.ptr)) := fun w1 t hg hp => by
    have hw1 := (hg.2.2.block (w.heap.size + 1 + 1) (by simp)).trans m2
    have hb1 := hb.trans (hg.2.2.mono hb.size)
    obtain ⟨o1, o2, o3⟩ := out_box (y := t.ptr) hw1 (by omega) hb1
    exact ⟨by rw [cell_of_row _ _ 0 _ 27 (0, 0) hw1]; rfl, frozen_of_row _ _ 0 _ 27 hw1, hide ⟨o1, In.aside hw1 o3 hg.2.1, hp.mono hb.size, o2⟩⟩
  unfold mv
  obtain ⟨x, hx⟩ := l.ptr_shape
  obtain ⟨y, hy⟩ := r.ptr_shape
  rw [hx, hy] at hf hj hb m2 ⊢
  rw [hx, hy] at key
  have HK := hide key
  clear hl hr hx hy key hn m0 m1
  generalize hF : fitsB l k r = F at *
  cases F with
  | false =>
    clear hj
    have HB := hide (And.intro hb m2)
    clear hb m2
    go_enter Tryz.func247, Tryz.ntmps247
    go_wp2_with (go_at_call 266; refine hf.mono ?_; rintro e w' ⟨rfl, rfl⟩)
    refine ret_row_tmp (w.heap.size + 1 + 1) [.pointer none] rfl rfl rfl Tryz.underlying27 rfl Tryz.info27 HB.out.2 rfl ?_
    exact ⟨.nil, rfl, rfl, trivial, HB.out.1⟩
  | true =>
    have HB := hide (And.intro hb m2)
    clear hb m2
    go_enter Tryz.func247, Tryz.ntmps247
    go_wp2_with (first
      | (go_at_call 266; refine hf.mono ?_; rintro e w' ⟨rfl, hw⟩; replace hw := hw.symm; subst hw)
      | (go_at_call 209; refine hj.mono ?_; rintro e w1 ⟨t, hg, hpp⟩; have he := hg.1; subst he; obtain ⟨q1, q2, HQ⟩ := HK.out w1 t hg hpp; obtain ⟨b, hb⟩ := t.ptr_shape; have HX := hide hb; rw [hb] at HQ ⊢; clear hb hg hpp))
    refine ret_row_tmp (w.heap.size + 1 + 1) [.pointer b] rfl rfl rfl Tryz.underlying27 rfl Tryz.info27 HQ.out.1 rfl ?_
    exact ⟨t, by rw [HX.out]; rfl, HQ.out.2.2.1, HQ.out.2.1, HQ.out.2.2.2⟩
end Go.Proofs.YtkkpdgfllnbigaaGreat.Pm
