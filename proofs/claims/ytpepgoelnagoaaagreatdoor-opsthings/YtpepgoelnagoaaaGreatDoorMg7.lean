/-
  kinds: the words of Dos.
  PLAIN MATHEMATICS for the layer wire: the forms of numbers as lists of bytes. It imports nothing of the program.
-/
import Derived.Test.YtpepgoelnagoaaaGreatDoorKinds
import Derived.WalkKit
import Derived.Laws.BitsAllLaws
namespace Go.Proofs.YtpepgoelnagoaaaGreatDoor.Ki
open Go.RowKit Go.Shelf
set_option linter.unusedSimpArgs false
attribute [local go_sem] Oper.semAt_some
/-- What a call of the closure leaves. -/
def Went (D : Nat → Prop) (J : Nat → World → Prop) (Jx : World → Prop) (W : World) (c : Nat) (e : Ending) (W' : World) : Prop := Only D W W' ∧ ((e = .returned (.bool true) ∧ J c W') ∨ (e = .returned (.bool false) ∧ Jx W'))
/-- The blocks of K are as they were. -/
def Same (K : Nat → Prop) (w W : World) : Prop := ∀ j, K j → W.heap[j]? = w.heap[j]?
theorem Same.only {D K : Nat → Prop} {w W W' : World} (h : Same K w W) (hK : ∀ j, K j → j < w.heap.size) (hs : w.heap.size ≤ W.heap.size) (ho : Only D W W') (hD : ∀ j, D j → ¬ K j) : Same K w W' := fun j hj =>
  (ho.block j (Nat.lt_of_lt_of_le (hK j hj) hs) (fun d => hD j d hj)).trans (h j hj)

theorem Same.cell {K : Nat → Prop} {w W : World} (h : Same K w W) {L : Nat} (hL : K L) {x : Value} (hc : w.cell? ⟨L, 0, none⟩ = some x) : W.cell? ⟨L, 0, none⟩ = some x := by
  rw [World.cell?_of_block (h L hL)]; exact hc
theorem Same.below {K : Nat → Prop} {w W W' : World} (h : Same K w W) (hK : ∀ j, K j → j < w.heap.size) (hs : w.heap.size ≤ W.heap.size) (hb : Below W.heap.size W W') : Same K w W' := fun j hj => (hb.block j (Nat.lt_of_lt_of_le (hK j hj) hs)).trans (h j hj)
/-- F, with what it has caught, hands over xs. -/
def Iter {α : Type} (F : FuncId) (caps : Array Value) (xs : List α) (enc : α → Array Value) (K : Nat → Prop) (w : World) : Prop :=
  ∀ (l : Nat) (D : Nat → Prop) (J : Nat → World → Prop) (Jx : World → Prop) (W : World), Same K w W → w.heap.size ≤ W.heap.size → (∀ j, D j → ¬ K j) → (∀ j, D j → j < W.heap.size) →
    (∀ c W1 W2, J c W1 → Below W1.heap.size W1 W2 → J c W2) →
    (∀ c x W1, xs[c]? = some x → J c W1 → Same K w W1 → W.heap.size ≤ W1.heap.size → YieldAt Fence.wide 4 Tryz.prog l (enc x) W1 (Went D J Jx W1 (c + 1))) → J 0 W →
    Calls Tryz.prog F (#[.func (.yield l) #[] #[]] ++ caps) W fun e W' => (∃ v, e = .returned v) ∧ (J xs.length W' ∨ Jx W')

set_option maxHeartbeats 1000000 in
/-- 'for .. := range it { .. }': D holds the blocks that a round may turn; I is what holds between rounds, Ix where one has left by a jump. -/
theorem range_it {α : Type} {a : Act} {w : World} {Q : Exit → Act → World → Prop} {g : Operand} {ps : Array Tmp} {assign body : Code} (F : FuncId) (eg : Enters Tryz.prog F) (caps : Array Value) (xs : List α) (enc : α → Array Value) (K : Nat → Prop)
    (hit : Iter F caps xs enc K w) (hg : a.eval g = .func (.func F) #[] caps) (hps : ∀ x ∈ xs, (enc x).size = ps.size) (hK : ∀ j, K j → j < w.heap.size)
    (D : Nat → Prop) (hDK : ∀ j, D j → ¬ K j) (hDlt : ∀ j, D j → j < w.heap.size)
    (I : Nat → World → Prop) (Ix : Code → World → Prop) (hI : ∀ k W W', I k W → Only (fun j => j = w.heap.size + 1) W W' → I k W') (hIx : ∀ c W W', Ix c W → Only (fun j => j = w.heap.size + 1) W W' → Ix c W') (h0 : I 0 w)
    (hround : ∀ c x W, xs[c]? = some x → I c W → Same K w W → w.heap.size + 2 ≤ W.heap.size →
      assign.wpIn (Fence.wide.inRound (w.heap.size + 1)) 4 Tryz.prog (Exit.then (fun a1 W1 => Only D W W1 ∧ ∀ W2, Only (fun j => j = w.heap.size + 1) W1 W2 → body.wpIn (Fence.wide.inRound (w.heap.size + 1)) 4 Tryz.prog (rpost D I Ix W2 (c + 1)) a1 W2) (fun _ _ _ => False))
        { tmps := (ps.zip (enc x)).foldl (fun t (p, v) => t.setIfInBounds p v) a.tmps, defers := [] } W)
    (hdone : ∀ W, I xs.length W → w.heap.size < W.heap.size → W.heap[w.heap.size]? = some (.deferred (some [])) → Q .normal { a with defers := { target := .collected w.heap.size, args := #[] } :: a.defers } W)
    (hstop : ∀ c W, Ix c W → w.heap.size < W.heap.size → W.heap[w.heap.size]? = some (.deferred (some [])) → c.wp Tryz.prog Q { a with defers := { target := .collected w.heap.size, args := #[] } :: a.defers } W) :
    (Code.rangeFunc g ps assign body).wp Tryz.prog Q a w := by
  have hD0 : ¬ D w.heap.size := fun d => by have := hDlt _ d; omega
  have hD1 : ¬ D (w.heap.size + 1) := fun d => by have := hDlt _ d; omega
  refine (wpIn_wide (n := 6)).1 (wpIn_rangeFunc (fun fn _ => ?_))
  obtain ⟨rec, hrec⟩ : ∃ rec : LoopState → Option Code → Loop, rec = fun st pe => { state := st, pending := pe, fn := fn, tmps := a.tmps, params := ps, assign := assign, body := body, defers := w.heap.size } := ⟨_, rfl⟩
  obtain ⟨W1, hW1⟩ : ∃ W1, (w.alloc (.deferred (some []))).alloc (.loop (rec .ready none)) = W1 := ⟨_, rfl⟩
  obtain ⟨m0, m1⟩ := new2 w (.deferred (some [])) (.loop (rec .ready none))
  rw [hW1] at m0 m1
  have hb1 : Below w.heap.size w W1 := by rw [← hW1]; exact ((Below.refl _ w).alloc (Nat.le_refl _) _).alloc (by simp) _
  have hs1 : W1.heap.size = w.heap.size + 2 := by rw [← hW1]; simp
  have toOnly : ∀ {A B : World}, Below A.heap.size A B → Only (fun j => j = w.heap.size + 1) A B := fun h => below_only h
  have hK1 : Same K w W1 := fun j hj => hb1.block j (hK j hj)
  refine ⟨w.heap.size + 1, [{ target := .collected w.heap.size, args := #[] }], W1, { target := .fn (.func F) caps, args := #[.func (.yield (w.heap.size + 1)) #[] #[]] }, W1, F,
    #[.func (.yield (w.heap.size + 1)) #[] #[]] ++ caps, W1, ?_, ?_, fun _ _ => trivial, ?_, fun _ => by omega, ?_⟩
  · rw [← hW1, hrec]; exact run_enterLoop_outer _ _ _ _ _
  · simp only [resolve, hg]
    simp [go_sem]
  · have eg' := fun args w => eg args w
    simp [invoke, go_sem, eg']
  · refine callsIn_wide.2 ((hit (w.heap.size + 1) (fun j => D j ∨ j = w.heap.size + 1)
      (fun k W => I k W ∧ W.heap[w.heap.size + 1]? = some (.loop (rec .ready none)) ∧ W.heap[w.heap.size]? = some (.deferred (some [])))
      (fun W => ∃ c, Ix c W ∧ W.heap[w.heap.size + 1]? = some (.loop (rec .done (some c))) ∧ W.heap[w.heap.size]? = some (.deferred (some []))) W1 hK1 (by omega)
      (fun j e => e.elim (hDK j) (fun e k => by have := hK j k; omega)) (fun j e => by rw [hs1]; exact e.elim (fun e => Nat.lt_of_lt_of_le (hDlt j e) (by omega)) (fun e => by omega))
      (fun k W W' hj hb => ⟨hI k W W' hj.1 (toOnly hb), (hb.block _ (Array.getElem?_eq_some_iff.1 hj.2.1).1).trans hj.2.1, (hb.block _ (Array.getElem?_eq_some_iff.1 hj.2.2).1).trans hj.2.2⟩) ?_ ⟨hI 0 w W1 h0 (toOnly hb1), m1, m0⟩).mono ?_)
    · rintro k x W hx ⟨hi, hl, hk⟩ hSK hsz
      rw [hs1] at hsz
      have hy := run_yield (P := Tryz.prog) (args := enc x) hl (by rw [hrec]; exact hps x (List.mem_of_getElem? hx))
      rw [hrec] at hy
      refine ⟨fn, _, assign, body, hy, roundIn_of_wpIn trivial (wpIn_mono (hround k x W hx hi hSK (by omega)) ?_)⟩
      rintro e a1 Wa hp
      cases e with
      | normal =>
        obtain ⟨hoa, hbody⟩ := hp
        have hla : Wa.heap[w.heap.size + 1]? = some (.loop (rec .ready none)) := (hoa.block _ (Array.getElem?_eq_some_iff.1 hl).1 hD1).trans hl
        have hka : Wa.heap[w.heap.size]? = some (.deferred (some [])) := (hoa.block _ (Array.getElem?_eq_some_iff.1 hk).1 hD0).trans hk
        refine ⟨_, run_beginRound hla (by rw [hrec]), ?_⟩
        have hlta := (Array.getElem?_eq_some_iff.1 hla).1
        have hl2 : (Wa.putObj (w.heap.size + 1) (.loop { rec .ready none with state := .busy })).heap[w.heap.size + 1]? = some (.loop { rec .ready none with state := .busy }) := World.putObj_heap_same hlta
        have hk2 : (Wa.putObj (w.heap.size + 1) (.loop { rec .ready none with state := .busy })).heap[w.heap.size]? = some (.deferred (some [])) := (World.putObj_heap_other (by omega)).trans hka
        have hT : ∀ {A B : World}, Only D A B → Only (fun j => D j ∨ j = w.heap.size + 1) A B := fun h => h.mono (fun _ _ e => .inl e)
        have hT2 : ∀ {A B : World}, Only (fun j => j = w.heap.size + 1) A B → Only (fun j => D j ∨ j = w.heap.size + 1) A B := fun h => h.mono (fun _ _ e => .inr e)
        have hTw := (hT hoa).next (hT2 (only_putObj Wa (w.heap.size + 1) (.loop { rec .ready none with state := .busy })))
        refine wpIn_mono (hbody _ (only_putObj Wa _ _)) ?_
        have fin : ∀ (jump : Option Code) (W3 : World), Only D (Wa.putObj (w.heap.size + 1) (.loop { rec .ready none with state := .busy })) W3 → ∃ W4, (Instr.endRound (w.heap.size + 1) jump).run Tryz.prog W3 = .ok (.bool jump.isNone) W4 ∧ Only (fun j => j = w.heap.size + 1) W3 W4 ∧
            W4.heap[w.heap.size + 1]? = some (.loop (rec (if jump.isNone then .ready else .done) jump)) ∧ W4.heap[w.heap.size]? = some (.deferred (some [])) ∧ Only (fun j => D j ∨ j = w.heap.size + 1) W W4 := fun jump W3 ho3 => by
          have hl3 := (ho3.block _ (by simpa using hlta) hD1).trans hl2
          have hk3 := (ho3.block _ (by simp; omega) hD0).trans hk2
          have := run_endRound (P := Tryz.prog) jump hl3
          refine ⟨_, this, only_putObj W3 _ _, ?_, (World.putObj_heap_other (by omega)).trans hk3, (hTw.next (hT ho3)).next (hT2 (only_putObj W3 _ _))⟩
          rw [World.putObj_heap_same (Array.getElem?_eq_some_iff.1 hl3).1, hrec]
        rintro e a3 W3 hp3
        cases e with
        | normal =>
          obtain ⟨ho3, hi3⟩ := hp3
          obtain ⟨W4, hr, ho4, hl4, hk4, hL4⟩ := fin none W3 ho3
          exact ⟨_, _, hr, hL4, .inl ⟨rfl, hI _ _ _ hi3 ho4, hl4, hk4⟩⟩
        | ret =>
          obtain ⟨ho3, hi3⟩ := hp3
          obtain ⟨W4, hr, ho4, hl4, hk4, hL4⟩ := fin (some .ret) W3 ho3
          exact ⟨_, _, hr, hL4, .inr ⟨rfl, .ret, hIx _ _ _ hi3 ho4, hl4, hk4⟩⟩
        | exit id =>
          obtain ⟨ho3, hi3⟩ := hp3
          obtain ⟨W4, hr, ho4, hl4, hk4, hL4⟩ := fin (some (.exit id)) W3 ho3
          exact ⟨_, _, hr, hL4, .inr ⟨rfl, .exit id, hIx _ _ _ hi3 ho4, hl4, hk4⟩⟩
        | goto t =>
          obtain ⟨ho3, hi3⟩ := hp3
          obtain ⟨W4, hr, ho4, hl4, hk4, hL4⟩ := fin (some (.goto t)) W3 ho3
          exact ⟨_, _, hr, hL4, .inr ⟨rfl, .goto t, hIx _ _ _ hi3 ho4, hl4, hk4⟩⟩
        | panic ch => exact hp3.elim
        | outgrown => exact hp3.elim
      | ret => exact hp.elim
      | exit id => exact hp.elim
      | goto t => exact hp.elim
      | panic ch => exact hp.elim
      | outgrown => exact hp.elim
    · rintro e W2 ⟨⟨v, rfl⟩, (⟨hi, hl, hk⟩ | ⟨c, hi, hl, hk⟩)⟩
      · have hlt := (Array.getElem?_eq_some_iff.1 hk).1
        refine ⟨none, _, by have := run_endLoop (P := Tryz.prog) hl (by rw [hrec]; simp); rw [hrec] at this; exact this, hdone _ (hI _ _ _ hi (only_putObj _ _ _)) (by simpa using hlt) ((World.putObj_heap_other (by omega)).trans hk)⟩
      · have hlt := (Array.getElem?_eq_some_iff.1 hk).1
        refine ⟨some c, _, by have := run_endLoop (P := Tryz.prog) hl (by rw [hrec]; simp); rw [hrec] at this; exact this, wpIn_wide.2 (hstop c _ (hIx _ _ _ hi (only_putObj _ _ _)) (by simpa using hlt) ((World.putObj_heap_other (by omega)).trans hk))⟩
/-- Words, each with its number: the first one's is 1. -/
def countL (ws : List ByteArray) : List (Nat × ByteArray) := ws.mapIdx fun k s => (k + 1, s)
theorem countL_len (ws : List ByteArray) : (countL ws).length = ws.length := by simp [countL]
theorem countL_get {ws : List ByteArray} {k : Nat} {s : ByteArray} (h : ws[k]? = some s) : (countL ws)[k]? = some (k + 1, s) := by simp [countL, h]
def encW (x : Nat × ByteArray) : Array Value := #[.int .i64 (x.1 : Int), .string x.2]
def KW (L G : Nat) (j : Nat) : Prop := j = L ∨ j = G
/-- The words lie in G, the box L points at them. -/
structure WAt (w : World) (L G : Nat) (T : TypeId) (ws : List ByteArray) : Prop where
  box : w.heap[L]? = some (.cells #[.slice (some ⟨G, 0, none⟩) ws.length ws.length] 30 (0, 0))
  row : w.heap[G]? = some (.cells (ws.map Value.string).toArray T (0, 0))
theorem WAt.below {w w' : World} {L G : Nat} {T : TypeId} {ws : List ByteArray} (h : WAt w L G T ws) (hb : Below w.heap.size w w') : WAt w' L G T ws := ⟨(hb.block _ (Array.getElem?_eq_some_iff.1 h.box).1).trans h.box, (hb.block _ (Array.getElem?_eq_some_iff.1 h.row).1).trans h.row⟩
theorem WAt.same {w w' : World} {L G : Nat} {T : TypeId} {ws : List ByteArray} (h : WAt w L G T ws) (hb : Same (KW L G) w w') : WAt w' L G T ws := ⟨(hb L (.inl rfl)).trans h.box, (hb G (.inr rfl)).trans h.row⟩
theorem WAt.lt {w : World} {L G : Nat} {T : TypeId} {ws : List ByteArray} (h : WAt w L G T ws) : ∀ j, KW L G j → j < w.heap.size := by
  rintro j (rfl | rfl)
  · exact (Array.getElem?_eq_some_iff.1 h.box).1
  · exact (Array.getElem?_eq_some_iff.1 h.row).1
theorem WAt.at {w : World} {L G : Nat} {T : TypeId} {ws : List ByteArray} (h : WAt w L G T ws) {k : Nat} {s : ByteArray} (hs : ws[k]? = some s) : w.cell? ⟨G, k, none⟩ = some (.string s) := by
  rw [cell_of_row _ _ k _ T (0, 0) h.row]; simp [hs]
def wordB (ws : List ByteArray) (n : Int) : ByteArray := ((countL ws).find? fun x => decide ((x.1 : Int) = n)).elim ⟨#[]⟩ (fun x => x.2)
def ofWB (ws : List ByteArray) (t : ByteArray) : Int × Bool := ((countL ws).find? fun x => decide (x.2 = t)).elim (0, false) (fun x => ((x.1 : Int), true))
theorem find_first {α : Type} {p : α → Bool} {xs : List α} {k : Nat} {x : α} (h : ∀ j y, j < k → xs[j]? = some y → p y = false) (hx : xs[k]? = some x) (hp : p x = true) : xs.find? p = some x := by
  obtain ⟨hk, rfl⟩ := List.getElem?_eq_some_iff.1 hx
  rw [List.find?_eq_some_iff_getElem]
  exact ⟨hp, k, hk, rfl, fun j hj => by rw [h j _ hj (List.getElem?_eq_getElem (by omega))]; rfl⟩
theorem find_none {α : Type} {p : α → Bool} {xs : List α} (h : ∀ j y, j < xs.length → xs[j]? = some y → p y = false) : xs.find? p = none := by
  rw [List.find?_eq_none]
  intro x hx
  obtain ⟨j, hj, rfl⟩ := List.getElem_of_mem hx
  rw [h j _ hj (List.getElem?_eq_getElem hj)]; decide
/-- A text of its own is handed back, behind a range over a function. -/
theorem leave_str {fn : Func} {tmps : Array Value} {p : Tmp} (b : Nat) {x : ByteArray} {R : Ending → World → Prop} {W : World} (h : fn.results = #[.cell p 9]) (hp : tmps.getD p undef = .pointer (some ⟨b, 0, none⟩))
    (hc : W.cell? ⟨b, 0, none⟩ = some (.string x)) (hR : R (.returned (.string x)) W) : LeavesInM Fence.wide 6 Tryz.prog fn tmps R [] .returning W := by
  refine leave_none (v := .string x) ?_ hR
  rw [results_cell h, hp]
  have : (loadVar 9 ⟨b, 0, none⟩).run Tryz.prog W = .ok (.string x) W := by go_simp
  simp [asAddr, Result.andThen, this]
theorem heap_size_alloc9 (w : World) (o : Obj) : (w.alloc o).heap.size = w.heap.size + 1 := by simp

def doWs : List ByteArray := [⟨#[97, 100, 100]⟩, ⟨#[105, 110, 115, 101, 114, 116]⟩, ⟨#[114, 101, 109, 111, 118, 101]⟩, ⟨#[119, 114, 105, 116, 101]⟩, ⟨#[112, 117, 115, 104]⟩, ⟨#[112, 111, 112]⟩, ⟨#[97, 112, 112, 101, 110, 100]⟩]
theorem entersD_93 : Enters Tryz.prog 191 := enters_of Tryz.func191 (by kernel_rfl) rfl
set_option maxRecDepth 100000 in
set_option maxHeartbeats 1000000 in
theorem iterD {w : World} {L G : Nat} {T : TypeId} {ws : List ByteArray} (h : WAt w L G T ws) (hl : ws.length ≤ 1000) : Iter 191 #[.pointer (some ⟨L, 0, none⟩)] (countL ws) encW (KW L G) w := by
  intro f D J Jx W hS hs hDK hDlt hJB hY hJ
  have hW := h.same hS
  have hc1 : W.cell? ⟨L, 0, none⟩ = some (.slice (some ⟨G, 0, none⟩) ws.length ws.length) := (cell_of_row _ _ 0 _ 30 (0, 0) hW.box).trans rfl
  have hn : 1 ≤ 5 := by omega
  refine (callsIn_wide (n := 5)).1 ?_
  rw [countL_len]
  obtain ⟨N, hN⟩ : ∃ N, N = ws.length := ⟨_, rfl⟩
  rw [← hN] at hc1 hl ⊢
  have HH := hide (And.intro hN h)
  clear hN h hW
  show CallsIn Fence.wide 5 Tryz.prog 191 #[.func (.yield f) #[] #[], .pointer (some ⟨L, 0, none⟩)] W _
  refine callsIn_of_wp Tryz.func191 rfl trivial ?_ rfl
  simp only [Tryz.ntmps191, List.size_toArray, List.length_cons, List.length_nil, Nat.reduceAdd, Nat.reduceSub, Array.replicate_succ, Array.replicate_zero, List.push_toArray, List.append_toArray, List.nil_append, List.cons_append]
  gi_wp2
  gi_loopw [7] (fun i wr => ∃ k : Nat, k ≤ N ∧ i = .int .i64 k ∧ J k wr ∧ Same (KW L G) w wr ∧ W.heap.size ≤ wr.heap.size) (fun i _ => N - (intOf i).toNat)
  case atStart => exact ⟨0, Nat.zero_le _, rfl, hJ, hS, Nat.le_refl _⟩
  case round =>
    obtain ⟨k, hk, rfl, hJk, hSk, hszk⟩ := hrel
    by_cases hlt : k < N
    · have d1 : decide (k < N) = true := by simpa using hlt
      have d1' : (k : Int) < (N : Int) := by omega
      obtain ⟨s, hs'⟩ : ∃ s, ws[k]? = some s := ⟨_, List.getElem?_eq_getElem (by rw [← HH.out.1]; exact hlt)⟩
      have hck := (HH.out.2.same hSk).at hs'
      have hyk := hY k _ wr (countL_get hs') hJk hSk hszk
      dsimp only [encW] at hyk
      have hkk : (((k + 1 : Nat) : Int)) = (k : Int) + 1 := by omega
      rw [hkk] at hyk
      have HK := hide (And.intro hJk (And.intro hSk hszk))
      clear hJk hSk hszk hs' hJ hS hkk
      obtain ⟨fn, tmps, assign, body, hy, hR⟩ := hyk
      gi_wp2
      refine hR.mono ?_
      rintro e W5 ⟨hon, (⟨rfl, hJ5⟩ | ⟨rfl, hJx5⟩)⟩
      · have hS5 := HK.out.2.1.only HH.out.2.lt (Nat.le_trans hs HK.out.2.2) hon hDK
        have HJ5 := hide (And.intro hJ5 (And.intro hS5 (Nat.le_trans HK.out.2.2 hon.size)))
        clear hJ5 hS5 hR hy
        gi_wp2
        go_roundw
        case rel => exact ⟨k + 1, by omega, by go_num, HJ5.out.1, HJ5.out.2.1, HJ5.out.2.2⟩
        case measure => simp [intOf]; omega
      · gi_wp2
        refine bodyPost_ret (results_none rfl _ _ _) rfl ?_
        exact ⟨⟨_, rfl⟩, .inr hJx5⟩
    · obtain rfl : k = N := by omega
      have d1 : decide (k < k) = false := by simp
      have HJ := hide hJk
      clear hJk hSk
      gi_wp2
      go_end0
      exact ⟨⟨_, rfl⟩, .inl HJ.out⟩

theorem Tryz.infoD_F110 : (Tryz.prog.info? 226).map (·.size) = some 7 := by kernel_rfl
set_option maxRecDepth 100000 in
theorem wordsD (w : World) : Calls Tryz.prog 170 #[] w fun e w' => e = .returned (.agg (doWs.map Value.string).toArray) ∧ Below w.heap.size w w' := by
  have hb : Below w.heap.size w (w.alloc (.cells (doWs.map Value.string).toArray 226)) := (Below.refl _ w).alloc (Nat.le_refl _) _
  have hn := heap_alloc_new w (.cells (doWs.map Value.string).toArray 226)
  have HB := hide (And.intro hb hn)
  clear hb hn
  go_enter Tryz.func170, Tryz.ntmps170
  go_wp2
  refine ret_row w.heap.size (doWs.map Value.string) rfl rfl Tryz.underlying226 rfl (Tryz.infoD_F110) HB.out.2 rfl ?_
  exact ⟨rfl, HB.out.1⟩
theorem countedD (v : Value) (ao : Option Addr) (m c : Nat) (hv : v = .slice ao m c) (w : World) : Calls Tryz.prog 171 #[v] w fun e w' => e = .returned (.func (.func 191) #[] #[.pointer (some ⟨w.heap.size, 0, none⟩)]) ∧ w' = w.alloc (.cells #[v] 30) := by
  subst hv
  go_enter Tryz.func171, Tryz.ntmps171
  go_wp2
  go_ret
  exact ⟨rfl, rfl⟩
def ItD (w : World) (e : Ending) (w' : World) : Prop := ∃ L G, e = .returned (.func (.func 191) #[] #[.pointer (some ⟨L, 0, none⟩)]) ∧ WAt w' L G 226 doWs ∧ w.heap.size ≤ L ∧ w.heap.size ≤ G ∧ Below w.heap.size w w'
set_option maxRecDepth 100000 in
theorem allD (w : World) : Calls Tryz.prog 139 #[] w (ItD w) := by
  have k68 := wordsD w
  have k69 := fun (W : World) => countedD (.slice (some ⟨W.heap.size, 0, none⟩) 7 7) (some ⟨W.heap.size, 0, none⟩) 7 7 rfl (W.alloc (.cells (doWs.map Value.string).toArray 226))
  have fin : ∀ W : World, Below w.heap.size w W → ItD w (.returned (.func (.func 191) #[] #[.pointer (some ⟨W.heap.size + 1, 0, none⟩)])) ((W.alloc (.cells (doWs.map Value.string).toArray 226)).alloc (.cells #[.slice (some ⟨W.heap.size, 0, none⟩) 7 7] 30)) := fun W hW => by
    obtain ⟨m0, m1, b⟩ := new2b W (.cells (doWs.map Value.string).toArray 226) (.cells #[.slice (some ⟨W.heap.size, 0, none⟩) 7 7] 30)
    have := hW.size
    exact ⟨W.heap.size + 1, W.heap.size, rfl, ⟨m1, m0⟩, by omega, by omega, hW.trans (b.mono hW.size)⟩
  replace fin := hide fin
  simp only [heap_size_alloc9] at k69
  simp only [doWs, List.map_cons, List.map_nil] at k68 k69
  go_enter Tryz.func139, Tryz.ntmps139
  go_wp2_with (first
    | (go_at_call 170; refine k68.mono ?_; rintro e w1 ⟨rfl, b1⟩; have H1 := hide b1; clear b1)
    | (go_at_call 171; refine (k69 w1).mono ?_; rintro e w2 ⟨rfl, hw2⟩; have H2 := hide hw2; clear hw2))
  go_ret
  rw [H2.out]
  exact fin.out w1 H1.out

set_option maxHeartbeats 2000000 in
set_option maxRecDepth 100000 in
theorem wordD {w : World} {L G : Nat} {T : TypeId} {ws : List ByteArray} (n : Int) (h : WAt w L G T ws) (hl : ws.length ≤ 1000) : Calls Tryz.prog 138 #[.func (.func 191) #[] #[.pointer (some ⟨L, 0, none⟩)], .int .i64 n] w fun e w' => e = .returned (.string (wordB ws n)) ∧ Below w.heap.size w w' := by
  obtain ⟨wA, hwA⟩ : ∃ wA, wA = (w.alloc (.cells #[.int .i64 n] 32)).alloc (.cells #[.string ⟨#[]⟩] 9) := ⟨_, rfl⟩
  obtain ⟨m0, m1, hb⟩ := new2b w (.cells #[.int .i64 n] 32) (.cells #[.string ⟨#[]⟩] 9)
  rw [← hwA] at m0 m1 hb
  have hsA : wA.heap.size = w.heap.size + 2 := by rw [hwA]; simp
  have hA := h.below hb
  have hit := iterD hA hl
  have hKw : ∀ j, KW L G j → j < w.heap.size := h.lt
  have HW := hide hwA
  obtain ⟨R, hR⟩ : ∃ R, R = wordB ws n := ⟨_, rfl⟩
  rw [← hR]
  have HR := hide hR
  clear hwA h hR
  have hret : ∀ (x : ByteArray) (W : World) (fn : Func) (tmps : Array Value), fn.results = #[.cell 4 9] → tmps.getD 4 undef = .pointer (some ⟨w.heap.size + 1, 0, none⟩) → W.heap[wA.heap.size]? = some (.deferred (some [])) → W.heap[w.heap.size + 1]? = some (.cells #[.string x] 9 (0, 0)) → Below w.heap.size w W → R = x →
      LeavesInM Fence.wide 6 Tryz.prog fn tmps (fun e w' => e = .returned (.string R) ∧ Below w.heap.size w w') ({ target := .collected wA.heap.size, args := #[] } :: []) .returning W := fun x W fn tmps hres hp hKk hTt hbl hx => by
    have ho := only_putObj W wA.heap.size (.deferred none)
    exact leave_mark hKk (leave_str (w.heap.size + 1) (x := x) hres hp (ho.cell (by rw [cell_of_row _ _ 0 _ 9 (0, 0) hTt]; rfl) (by simp only; omega)) ⟨by rw [hx], Below.only hbl ho hbl.size (by intro j e; omega)⟩)
  refine calls_marks Tryz.func138 rfl ?_
  simp only [Tryz.ntmps138, List.size_toArray, List.length_cons, List.length_nil, Nat.reduceAdd, Nat.reduceSub, Array.replicate_succ, Array.replicate_zero, List.push_toArray, List.append_toArray, List.nil_append, List.cons_append]
  go_wp2
  rw [← HW.out]
  refine range_it 191 entersD_93 _ (countL ws) encW _ hit rfl (fun _ _ => rfl) (fun j hj => Nat.lt_of_lt_of_le (hKw j hj) hb.size) (fun j => j = w.heap.size + 1) (fun j e hj => by have := hKw j hj; omega) (by intro j e; omega)
    (fun k W => Below w.heap.size w W ∧ W.heap[w.heap.size]? = some (.cells #[.int .i64 n] 32 (0, 0)) ∧ W.heap[w.heap.size + 1]? = some (.cells #[.string ⟨#[]⟩] 9 (0, 0)) ∧ ∀ j y, j < k → (countL ws)[j]? = some y → decide ((y.1 : Int) = n) = false)
    (fun cd W => cd = .ret ∧ Below w.heap.size w W ∧ W.heap[w.heap.size + 1]? = some (.cells #[.string R] 9 (0, 0)))
    (fun k W W' hi ho => ⟨Below.only hi.1 ho hi.1.size (fun j e => by omega), (ho.block _ (Array.getElem?_eq_some_iff.1 hi.2.1).1 (by omega)).trans hi.2.1, (ho.block _ (Array.getElem?_eq_some_iff.1 hi.2.2.1).1 (by omega)).trans hi.2.2.1, hi.2.2.2⟩)
    (fun cd W W' hi ho => ⟨hi.1, Below.only hi.2.1 ho hi.2.1.size (fun j e => by omega), (ho.block _ (Array.getElem?_eq_some_iff.1 hi.2.2).1 (by omega)).trans hi.2.2⟩) ⟨hb, m0, m1, fun j y hj => by omega⟩ ?hround ?hdone ?hstop
  case hdone =>
    rintro W ⟨hbW, hcn, hcW, hno⟩ hlt hk
    have r1 : W.cell? ⟨w.heap.size + 1, 0, none⟩ = some (.string ⟨#[]⟩) := (cell_of_row _ _ 0 _ 9 (0, 0) hcW).trans rfl
    have z1 : W.frozen? ⟨w.heap.size + 1, 0, none⟩ = false := frozen_of_row _ _ 0 _ 9 hcW
    have hRn : R = ⟨#[]⟩ := by rw [HR.out]; unfold wordB; rw [find_none hno]; rfl
    have HX := hide (And.intro hk (And.intro hbW (And.intro hcW hRn)))
    clear hit hKw hk hbW hcn hcW hno hA m0 m1 hRn
    go_wp2
    obtain ⟨hk, i2, i1, hy⟩ := HX.out
    have ho := Only.ofGrown (grown_setCell W ⟨w.heap.size + 1, 0, none⟩ (.string ⟨#[]⟩))
    refine hret ⟨#[]⟩ _ Tryz.f138 _ rfl rfl ((ho.block _ (Array.getElem?_eq_some_iff.1 hk).1 (fun e => by have e' : w.heap.size + 1 = wA.heap.size := (by injection e); omega)).trans hk) ?_ (Below.only i2 ho i2.size (fun j e => by have e' : w.heap.size + 1 = j := (by injection e); omega)) hy
    rw [heap_setCell_same _ _ _ _ 9 _ i1]; rfl
  case hstop =>
    rintro cd W ⟨rfl, hbl, hTt⟩ hls hKk
    have HX := hide (And.intro hKk (And.intro hTt hbl))
    clear hKk hTt hbl hit hKw
    go_wp2
    exact hret R _ Tryz.f138 _ rfl rfl HX.out.1 HX.out.2.1 HX.out.2.2 rfl
  case hround =>
    rintro k ⟨xn, xs⟩ W hx ⟨hbW, hcn, hcW, hno⟩ hSame hsz
    clear hSame hit hKw
    dsimp only [encW]
    gi_wp2
    refine ⟨Only.refl _ _, fun W2 ho2 => ?_⟩
    have cn := (ho2.block _ (Array.getElem?_eq_some_iff.1 hcn).1 (by omega)).trans hcn
    have c2 := (ho2.block _ (Array.getElem?_eq_some_iff.1 hcW).1 (by omega)).trans hcW
    have rn : W2.cell? ⟨w.heap.size, 0, none⟩ = some (.int .i64 n) := (cell_of_row _ _ 0 _ 32 (0, 0) cn).trans rfl
    have r1 : W2.cell? ⟨w.heap.size + 1, 0, none⟩ = some (.string ⟨#[]⟩) := (cell_of_row _ _ 0 _ 9 (0, 0) c2).trans rfl
    have r2 := frozen_of_row _ _ 0 _ 9 c2
    obtain ⟨s1, s2⟩ := set_one (i := 0) (.string xs) c2
    have HB := hide (Below.only hbW ho2 hbW.size (fun j e => by omega))
    have HS := hide (And.intro s1 s2)
    have HC := hide (And.intro cn c2)
    by_cases hxn : (xn : Int) = n
    · have e1 : ((xn : Int) == n) = true := by simpa using hxn
      have hRx : R = xs := by rw [HR.out]; unfold wordB; rw [find_first hno hx (by simpa using hxn)]; rfl
      have HX := hide hRx
      clear hcW hbW hcn c2 cn s1 s2 hRx hno hx hxn
      gi_wp2
      exact ⟨HS.out.2, rfl, Below.only HB.out HS.out.2 HB.out.size (fun j e => by omega), by rw [HX.out]; simpa using HS.out.1⟩
    · have e1 : ((xn : Int) == n) = false := by simpa using hxn
      have hnx : ∀ j y, j < k + 1 → (countL ws)[j]? = some y → decide ((y.1 : Int) = n) = false := fun j y hj hy => by
        by_cases hjk : j = k
        · subst hjk
          rw [hx] at hy
          cases hy
          simpa using hxn
        · exact hno j y (by omega) hy
      have HX := hide hnx
      clear hcW hbW hcn c2 cn s1 s2 hnx hno hx hxn
      gi_wp2
      exact ⟨Only.refl _ _, HB.out, HC.out.1, HC.out.2, HX.out⟩
theorem WordD (n : Int) (w : World) : Calls Tryz.prog 102 #[.int .i64 n] w fun e w' => e = .returned (.string (wordB doWs n)) ∧ Below w.heap.size w w' := by
  have k40 := allD w
  go_enter Tryz.func102, Tryz.ntmps102
  go_wp2_with (first
    | (go_at_call 139; refine k40.mono ?_; rintro e w1 ⟨L, G, rfl, hw, -, -, b1⟩; have k52 := wordD n hw (by decide); have H1 := hide b1; clear b1 hw)
    | (go_at_call 138; refine k52.mono ?_; rintro e w2 ⟨rfl, b2⟩; have H2 := hide b2; clear b2))
  go_ret
  exact ⟨rfl, H1.out.trans (H2.out.mono H1.out.size)⟩
theorem new3b (w : World) (o1 o2 o3 : Obj) : (((w.alloc o1).alloc o2).alloc o3).heap[w.heap.size]? = some o1 ∧ (((w.alloc o1).alloc o2).alloc o3).heap[w.heap.size + 1]? = some o2 ∧ (((w.alloc o1).alloc o2).alloc o3).heap[w.heap.size + 2]? = some o3 ∧ Below w.heap.size w (((w.alloc o1).alloc o2).alloc o3) := new3 w o1 o2 o3

/-- A number and a truth of its own are handed back, behind a range over a function. -/
theorem leaveD {fn : Func} {tmps : Array Value} {p q : Tmp} (b c : Nat) {x : Int} {y : Bool} {R : Ending → World → Prop} {W : World} (h : fn.results = #[.cell p 32, .cell q 4]) (hp : tmps.getD p undef = .pointer (some ⟨b, 0, none⟩)) (hq : tmps.getD q undef = .pointer (some ⟨c, 0, none⟩))
    (hc : W.cell? ⟨b, 0, none⟩ = some (.int .i64 x)) (hd : W.cell? ⟨c, 0, none⟩ = some (.bool y)) (hR : R (.returned (.tuple #[.int .i64 x, .bool y])) W) : LeavesInM Fence.wide 6 Tryz.prog fn tmps R [] .returning W := by
  refine leave_none (v := .tuple #[.int .i64 x, .bool y]) ?_ hR
  have h1 : (loadVar 32 ⟨b, 0, none⟩).run Tryz.prog W = .ok (.int .i64 x) W := by go_simp
  have h2 : (loadVar 4 ⟨c, 0, none⟩).run Tryz.prog W = .ok (.bool y) W := by go_simp
  have hp' : tmps[p]?.getD undef = .pointer (some ⟨b, 0, none⟩) := by simpa using hp
  have hq' : tmps[q]?.getD undef = .pointer (some ⟨c, 0, none⟩) := by simpa using hq
  simp [results, h, hp', hq', asAddr, Sem.run_bind, Result.andThen, h1, h2]

set_option maxHeartbeats 2000000 in
set_option maxRecDepth 100000 in
theorem ofWordD {w : World} {L G : Nat} {T : TypeId} {ws : List ByteArray} (t : ByteArray) (h : WAt w L G T ws) (hl : ws.length ≤ 1000) : Calls Tryz.prog 239 #[.func (.func 191) #[] #[.pointer (some ⟨L, 0, none⟩)], .string t] w fun e w' => e = .returned (.tuple #[.int .i64 (ofWB ws t).1, .bool (ofWB ws t).2]) ∧ Below w.heap.size w w' := by
  obtain ⟨wA, hwA⟩ : ∃ wA, wA = ((w.alloc (.cells #[.string t] 9)).alloc (.cells #[.int .i64 0] 32)).alloc (.cells #[.bool false] 4) := ⟨_, rfl⟩
  obtain ⟨m0, m1, m2, hb⟩ := new3b w (.cells #[.string t] 9) (.cells #[.int .i64 0] 32) (.cells #[.bool false] 4)
  rw [← hwA] at m0 m1 m2 hb
  have hsA : wA.heap.size = w.heap.size + 3 := by rw [hwA]; simp
  have hA := h.below hb
  have hit := iterD hA hl
  have hKw : ∀ j, KW L G j → j < w.heap.size := h.lt
  have HW := hide hwA
  obtain ⟨R, hR⟩ : ∃ R, R = ofWB ws t := ⟨_, rfl⟩
  rw [← hR]
  have HR := hide hR
  clear hwA h hR
  have hret : ∀ (x : Int) (y : Bool) (W : World) (fn : Func) (tmps : Array Value), fn.results = #[.cell 4 32, .cell 5 4] → tmps.getD 4 undef = .pointer (some ⟨w.heap.size + 1, 0, none⟩) → tmps.getD 5 undef = .pointer (some ⟨w.heap.size + 1 + 1, 0, none⟩) → W.heap[wA.heap.size]? = some (.deferred (some [])) → W.heap[w.heap.size + 1]? = some (.cells #[.int .i64 x] 32 (0, 0)) → W.heap[w.heap.size + 2]? = some (.cells #[.bool y] 4 (0, 0)) → Below w.heap.size w W → R = (x, y) →
      LeavesInM Fence.wide 6 Tryz.prog fn tmps (fun e w' => e = .returned (.tuple #[.int .i64 R.1, .bool R.2]) ∧ Below w.heap.size w w') ({ target := .collected wA.heap.size, args := #[] } :: []) .returning W := fun x y W fn tmps hres hp hq hKk hTt hTu hbl hx => by
    have ho := only_putObj W wA.heap.size (.deferred none)
    exact leave_mark hKk (leaveD (w.heap.size + 1) (w.heap.size + 2) (x := x) (y := y) hres hp hq (ho.cell (by rw [cell_of_row _ _ 0 _ 32 (0, 0) hTt]; rfl) (by simp only; omega)) (ho.cell (by rw [cell_of_row _ _ 0 _ 4 (0, 0) hTu]; rfl) (by simp only; omega)) ⟨by rw [hx], Below.only hbl ho hbl.size (by intro j e; omega)⟩)
  refine calls_marks Tryz.func239 rfl ?_
  simp only [Tryz.ntmps239, List.size_toArray, List.length_cons, List.length_nil, Nat.reduceAdd, Nat.reduceSub, Array.replicate_succ, Array.replicate_zero, List.push_toArray, List.append_toArray, List.nil_append, List.cons_append]
  go_wp2
  rw [← HW.out]
  refine range_it 191 entersD_93 _ (countL ws) encW _ hit rfl (fun _ _ => rfl) (fun j hj => Nat.lt_of_lt_of_le (hKw j hj) hb.size) (fun j => j = w.heap.size + 1 ∨ j = w.heap.size + 2) (fun j e hj => by have := hKw j hj; omega) (by intro j e; omega)
    (fun k W => Below w.heap.size w W ∧ W.heap[w.heap.size]? = some (.cells #[.string t] 9 (0, 0)) ∧ W.heap[w.heap.size + 1]? = some (.cells #[.int .i64 0] 32 (0, 0)) ∧ W.heap[w.heap.size + 2]? = some (.cells #[.bool false] 4 (0, 0)) ∧ ∀ j y, j < k → (countL ws)[j]? = some y → decide (y.2 = t) = false)
    (fun cd W => cd = .ret ∧ Below w.heap.size w W ∧ W.heap[w.heap.size + 1]? = some (.cells #[.int .i64 R.1] 32 (0, 0)) ∧ W.heap[w.heap.size + 2]? = some (.cells #[.bool R.2] 4 (0, 0)))
    (fun k W W' hi ho => ⟨Below.only hi.1 ho hi.1.size (fun j e => by omega), (ho.block _ (Array.getElem?_eq_some_iff.1 hi.2.1).1 (by omega)).trans hi.2.1, (ho.block _ (Array.getElem?_eq_some_iff.1 hi.2.2.1).1 (by omega)).trans hi.2.2.1, (ho.block _ (Array.getElem?_eq_some_iff.1 hi.2.2.2.1).1 (by omega)).trans hi.2.2.2.1, hi.2.2.2.2⟩)
    (fun cd W W' hi ho => ⟨hi.1, Below.only hi.2.1 ho hi.2.1.size (fun j e => by omega), (ho.block _ (Array.getElem?_eq_some_iff.1 hi.2.2.1).1 (by omega)).trans hi.2.2.1, (ho.block _ (Array.getElem?_eq_some_iff.1 hi.2.2.2).1 (by omega)).trans hi.2.2.2⟩) ⟨hb, m0, m1, m2, fun j y hj => by omega⟩ ?hround ?hdone ?hstop
  case hdone =>
    rintro W ⟨hbW, hcn, hcW, hcU, hno⟩ hlt hk
    have r1 : W.cell? ⟨w.heap.size + 1, 0, none⟩ = some (.int .i64 0) := (cell_of_row _ _ 0 _ 32 (0, 0) hcW).trans rfl
    have z1 : W.frozen? ⟨w.heap.size + 1, 0, none⟩ = false := frozen_of_row _ _ 0 _ 32 hcW
    obtain ⟨s1, s2⟩ := set_one (i := 0) (.int .i64 0) hcW
    obtain ⟨W1, hW1⟩ : ∃ W1, W1 = W.setCell ⟨w.heap.size + 1, 0, none⟩ (.int .i64 0) := ⟨_, rfl⟩
    rw [← hW1] at s1 s2
    have hcU1 := (s2.block _ (Array.getElem?_eq_some_iff.1 hcU).1 (by omega)).trans hcU
    have hk1 := (s2.block _ (Array.getElem?_eq_some_iff.1 hk).1 (by omega)).trans hk
    have r2 : W1.cell? ⟨w.heap.size + 1 + 1, 0, none⟩ = some (.bool false) := (cell_of_row _ _ 0 _ 4 (0, 0) hcU1).trans rfl
    have z2 : W1.frozen? ⟨w.heap.size + 1 + 1, 0, none⟩ = false := frozen_of_row _ _ 0 _ 4 hcU1
    rw [hW1] at r2 z2
    obtain ⟨u1, u2⟩ := set_one (i := 0) (.bool false) hcU1
    have hRn : R = (0, false) := by rw [HR.out]; unfold ofWB; rw [find_none hno]; rfl
    have HX := hide (And.intro hW1 (And.intro (And.intro u1 u2) (And.intro (And.intro s1 s2) (And.intro hbW (And.intro hk1 hRn)))))
    clear hit hKw hk hbW hcn hcW hno hA m0 m1 m2 hRn s1 s2 u1 u2 hcU hcU1 hk1 hW1
    go_wp2
    obtain ⟨hW1, ⟨u1, u2⟩, ⟨s1, s2⟩, hbW, hk1, hy⟩ := HX.out
    rw [← hW1]
    have hb1 := Below.only hbW s2 hbW.size (fun j e => by omega)
    refine hret 0 false _ Tryz.f239 _ rfl rfl rfl ((u2.block _ (Array.getElem?_eq_some_iff.1 hk1).1 (by omega)).trans hk1) ((u2.block _ (Array.getElem?_eq_some_iff.1 s1).1 (by omega)).trans s1) u1 (Below.only hb1 u2 hb1.size (fun j e => by omega)) hy
  case hstop =>
    rintro cd W ⟨rfl, hbl, hTt, hTu⟩ hls hKk
    have HX := hide (And.intro hKk (And.intro hTt (And.intro hTu hbl)))
    clear hKk hTt hTu hbl hit hKw
    go_wp2
    exact hret R.1 R.2 _ Tryz.f239 _ rfl rfl rfl HX.out.1 HX.out.2.1 HX.out.2.2.1 HX.out.2.2.2 rfl
  case hround =>
    rintro k ⟨xn, xs⟩ W hx ⟨hbW, hcn, hcW, hcU, hno⟩ hSame hsz
    clear hSame hit hKw
    dsimp only [encW]
    gi_wp2
    refine ⟨Only.refl _ _, fun W2 ho2 => ?_⟩
    have cn := (ho2.block _ (Array.getElem?_eq_some_iff.1 hcn).1 (by omega)).trans hcn
    have c2 := (ho2.block _ (Array.getElem?_eq_some_iff.1 hcW).1 (by omega)).trans hcW
    have c3 := (ho2.block _ (Array.getElem?_eq_some_iff.1 hcU).1 (by omega)).trans hcU
    have rn : W2.cell? ⟨w.heap.size, 0, none⟩ = some (.string t) := (cell_of_row _ _ 0 _ 9 (0, 0) cn).trans rfl
    have r1 : W2.cell? ⟨w.heap.size + 1, 0, none⟩ = some (.int .i64 0) := (cell_of_row _ _ 0 _ 32 (0, 0) c2).trans rfl
    have r2 := frozen_of_row _ _ 0 _ 32 c2
    obtain ⟨s1, s2⟩ := set_one (i := 0) (.int .i64 (xn : Int)) c2
    obtain ⟨W3, hW3⟩ : ∃ W3, W3 = W2.setCell ⟨w.heap.size + 1, 0, none⟩ (.int .i64 (xn : Int)) := ⟨_, rfl⟩
    rw [← hW3] at s1 s2
    have d3 := (s2.block _ (Array.getElem?_eq_some_iff.1 c3).1 (by omega)).trans c3
    have r3 : W3.cell? ⟨w.heap.size + 1 + 1, 0, none⟩ = some (.bool false) := (cell_of_row _ _ 0 _ 4 (0, 0) d3).trans rfl
    have r4 : W3.frozen? ⟨w.heap.size + 1 + 1, 0, none⟩ = false := frozen_of_row _ _ 0 _ 4 d3
    rw [hW3] at r3 r4
    obtain ⟨u1, u2⟩ := set_one (i := 0) (.bool true) d3
    have HB := hide (Below.only hbW ho2 hbW.size (fun j e => by omega))
    have HS := hide (And.intro hW3 (And.intro (And.intro s1 s2) (And.intro u1 u2)))
    have HC := hide (And.intro cn (And.intro c2 c3))
    by_cases hxn : xs = t
    · have HE := hide hxn
      have hRx : R = ((xn : Int), true) := by rw [HR.out]; unfold ofWB; rw [find_first hno hx (by simpa using hxn)]; rfl
      have HX := hide hRx
      clear hcW hbW hcn c2 cn c3 d3 s1 s2 u1 u2 hRx hno hx hW3 hcU
      subst hxn
      gi_wp2
      obtain ⟨hW3, ⟨s1, s2⟩, u1, u2⟩ := HS.out
      rw [← hW3]
      have hb3 := Below.only HB.out s2 HB.out.size (fun j e => by omega)
      refine ⟨(s2.mono (fun j _ e => .inl e)).next (u2.mono (fun j _ e => .inr e)), rfl, Below.only hb3 u2 hb3.size (fun j e => by omega), ?_, ?_⟩
      · rw [HX.out]; exact (u2.block _ (Array.getElem?_eq_some_iff.1 s1).1 (by omega)).trans s1
      · rw [HX.out]; exact u1
    · have e1 : (xs.toList == t.toList) = false := by
        rw [Bool.eq_false_iff, Ne, bytes_same]; exact hxn
      have hnx : ∀ j y, j < k + 1 → (countL ws)[j]? = some y → decide (y.2 = t) = false := fun j y hj hy => by
        by_cases hjk : j = k
        · subst hjk
          rw [hx] at hy
          cases hy
          simpa using hxn
        · exact hno j y (by omega) hy
      have HX := hide hnx
      clear hcW hbW hcn c2 cn c3 d3 s1 s2 u1 u2 hnx hno hx hxn hW3 hcU
      gi_wp2
      exact ⟨Only.refl _ _, HB.out, HC.out.1, HC.out.2.1, HC.out.2.2, HX.out⟩
theorem OfWordD (t : ByteArray) (w : World) : Calls Tryz.prog 236 #[.string t] w fun e w' => e = .returned (.tuple #[.int .i64 (ofWB doWs t).1, .bool (ofWB doWs t).2]) ∧ Below w.heap.size w w' := by
  have k40 := allD w
  go_enter Tryz.func236, Tryz.ntmps236
  go_wp2_with (first
    | (go_at_call 139; refine k40.mono ?_; rintro e w1 ⟨L, G, rfl, hw, -, -, b1⟩; have k39 := ofWordD t hw (by decide); have H1 := hide b1; clear b1 hw)
    | (go_at_call 239; refine k39.mono ?_; rintro e w2 ⟨rfl, b2⟩; have H2 := hide b2; clear b2))
  go_ret2
  exact ⟨rfl, H1.out.trans (H2.out.mono H1.out.size)⟩
end Go.Proofs.YtpepgoelnagoaaaGreatDoor.Ki
namespace Go.Proofs.YtpepgoelnagoaaaGreatDoor

/-- '^n' of an int64. -/
theorem i64_not_any (n : Int) (h0 : -9223372036854775808 ≤ n) (h1 : n ≤ 9223372036854775807) : bits .xor .i64 (-1) n = -1 - n := by
  show IntKind.i64.wrap ((BitVec.ofInt 64 (-1) ^^^ BitVec.ofInt 64 n).toNat : Int) = _
  have e : BitVec.ofInt 64 (-1) = BitVec.allOnes 64 := by decide
  rw [e, BitVec.allOnes_xor, BitVec.toNat_not, BitVec.toNat_ofInt]
  simp [IntKind.wrap, IntKind.bits, IntKind.signed]
  omega

namespace Plain

/-- The form of a number: its digits to the base 128, the lowest first, 128 added to all but the last. -/
def numL (n : Nat) : List Int := if _h : 127 < n then ((n % 128 + 128 : Nat) : Int) :: numL (n / 128) else [(n : Int)]

theorem numL_big {n : Nat} (h : 127 < n) : numL n = ((n % 128 + 128 : Nat) : Int) :: numL (n / 128) := by
  rw [numL]; simp [h]
theorem numL_small {n : Nat} (h : n ≤ 127) : numL n = [(n : Int)] := by
  rw [numL]; simp [show ¬ 127 < n by omega]

theorem numL_le (k : Nat) : ∀ n, n < 128 ^ (k + 1) → (numL n).length ≤ k + 1 := by
  induction k with
  | zero => intro n h; rw [numL_small (by omega)]; simp
  | succ k ih =>
    intro n h
    by_cases hn : 127 < n
    · rw [numL_big hn]
      have := ih (n / 128) (by rw [Nat.div_lt_iff_lt_mul (by omega)]; rw [Nat.pow_succ] at h; exact h)
      simp; omega
    · rw [numL_small (by omega)]; simp

theorem numL_ten (n : Nat) (h : n < 18446744073709551616) : (numL n).length ≤ 10 := numL_le 9 n (by omega)

/-- A signed number as one without a sign. -/
def fold (n : Int) : Nat := if n < 0 then (2 * (-(n + 1)) + 1).toNat else (2 * n).toNat
theorem fold_lt (n : Int) (h0 : -9223372036854775808 ≤ n) (h1 : n ≤ 9223372036854775807) : fold n < 18446744073709551616 := by
  unfold fold; split <;> omega

end Plain
end Go.Proofs.YtpepgoelnagoaaaGreatDoor
