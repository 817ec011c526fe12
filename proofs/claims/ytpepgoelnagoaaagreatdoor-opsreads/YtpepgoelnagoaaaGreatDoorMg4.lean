/-
  A LAW for the statement 'for ahead, key := range Fronts(l) { .. }'.
  PATHS: plainly (pathB), and what the program's Path answers.
  A strings.Builder THAT A CALL HAS MADE: copyCheck, WriteByte, WriteString over this dump (their bodies are not those of the shelf's names), with what they leave as it was; String by the shelf's contract.
  PATHS' TEXTS: plainly (joinB), and what the program's Join answers.
  THE DOCUMENT's Cmp, CmpPath, Same: what they answer.
  PLACES HELD AGAINST EACH OTHER: cmp.Compare, cmp.Or, the program's CmpPlace.
  PLAINLY: the three orders; what was joined is split as it was.
-/
import Derived.Test.YtpepgoelnagoaaaGreatDoorMg3
import Derived.Lib.Builder
import Derived.Lib.AppendStr
import Derived.Laws.Externs
import Derived.Deep.QuietTactic
import Derived.BigQuiet
namespace Go.Proofs.YtpepgoelnagoaaaGreatDoor
open Go.RowKit Go.Shelf
set_option linter.unusedSimpArgs false
attribute [local go_sem] Oper.semAt_some

set_option maxHeartbeats 1000000 in
/-- 'for at, f := range all { .. }': D holds the old blocks that a round may turn; I is what holds between rounds, Ix where one has left by a jump. -/
theorem range_fr {a : Act} {w : World} {Q : Exit → Act → World → Prop} {g : Operand} {ps : Array Tmp} {assign body : Code} (L : Nat) (ao : Option Addr) (c : Nat) (ks : List ByteArray)
    (hg : a.eval g = .func (.func 167) #[] #[.pointer (some ⟨L, 0, none⟩)]) (hps : ps.size = 2) (hL : KAt w L ao c ks) (hlen : ks.length ≤ 1000000)
    (D : Nat → Prop) (hDL : ¬ D L) (hDa : ∀ a, ao = some a → ¬ D a.block) (hDs : ¬ D w.heap.size) (hDt : ¬ D (w.heap.size + 1)) (hau : ∀ a, ao = some a → a.block < w.heap.size)
    (I : Nat → World → Prop) (Ix : Code → World → Prop) (hI : ∀ k W W', I k W → Only (fun j => j = w.heap.size + 1) W W' → I k W') (hIx : ∀ c W W', Ix c W → Only (fun j => j = w.heap.size + 1) W W' → Ix c W') (h0 : I 0 w)
    (hround : ∀ k key v W0 W, ks[k]? = some key → I k W0 → Below W0.heap.size W0 W → Os W W0.heap.size v (ks.take k) → w.heap.size + 1 < W0.heap.size →
      assign.wpIn (Fence.wide.inRound (w.heap.size + 1)) 4 Tryz.prog (Exit.then (fun a1 W1 => Only (Turns D W0.heap.size v) W W1 ∧ ∀ W2, Only (fun j => j = w.heap.size + 1) W1 W2 → body.wpIn (Fence.wide.inRound (w.heap.size + 1)) 4 Tryz.prog (rpost (Turns D W0.heap.size v) I Ix W2 (k + 1)) a1 W2) (fun _ _ _ => False))
        { tmps := (ps.zip #[v, .string key]).foldl (fun t (p, v) => t.setIfInBounds p v) a.tmps, defers := [] } W)
    (hdone : ∀ W, I ks.length W → w.heap.size < W.heap.size → W.heap[w.heap.size]? = some (.deferred (some [])) → Q .normal { a with defers := { target := .collected w.heap.size, args := #[] } :: a.defers } W)
    (hstop : ∀ c W, Ix c W → w.heap.size < W.heap.size → W.heap[w.heap.size]? = some (.deferred (some [])) → c.wp Tryz.prog Q { a with defers := { target := .collected w.heap.size, args := #[] } :: a.defers } W) :
    (Code.rangeFunc g ps assign body).wp Tryz.prog Q a w := by
  refine (wpIn_wide (n := 6)).1 (wpIn_rangeFunc (fun fn _ => ?_))
  obtain ⟨rec, hrec⟩ : ∃ rec : LoopState → Option Code → Loop, rec = fun st pe => { state := st, pending := pe, fn := fn, tmps := a.tmps, params := ps, assign := assign, body := body, defers := w.heap.size } := ⟨_, rfl⟩
  obtain ⟨W1, hW1⟩ : ∃ W1, (w.alloc (.deferred (some []))).alloc (.loop (rec .ready none)) = W1 := ⟨_, rfl⟩
  obtain ⟨m0, m1⟩ := new2 w (.deferred (some [])) (.loop (rec .ready none))
  rw [hW1] at m0 m1
  have hb1 : Below w.heap.size w W1 := by rw [← hW1]; exact ((Below.refl _ w).alloc (Nat.le_refl _) _).alloc (by simp) _
  have hs1 : W1.heap.size = w.heap.size + 2 := by rw [← hW1]; simp
  have toOnly : ∀ {A B : World}, Below A.heap.size A B → Only (fun j => j = w.heap.size + 1) A B := fun h => (Only.ofBelow h).mono (fun _ _ d => d.elim)
  have hLlt : L < w.heap.size := World.block_lt_of_cell? w _ hL.box
  have toLog : ∀ {A B : World}, KAt A L ao c ks → Only (fun j => j = w.heap.size + 1) A B → KAt B L ao c ks := fun h k => h.only k (by omega) (fun a ha e => by have := hau a ha; omega)
  refine ⟨w.heap.size + 1, [{ target := .collected w.heap.size, args := #[] }], W1, { target := .fn (.func 167) #[.pointer (some ⟨L, 0, none⟩)], args := #[.func (.yield (w.heap.size + 1)) #[] #[]] }, W1, 167,
    #[.func (.yield (w.heap.size + 1)) #[] #[]] ++ #[.pointer (some ⟨L, 0, none⟩)], W1, ?_, ?_, fun _ _ => trivial, ?_, fun _ => by omega, ?_⟩
  · rw [← hW1, hrec]; exact run_enterLoop_outer _ _ _ _ _
  · simp only [resolve, hg]
    simp [go_sem]
  · have eg := enters_of (P := Tryz.prog) (f := 167) Tryz.func167 (by kernel_rfl) rfl
    simp [invoke, go_sem, eg]
  · have hlog1 : KAt W1 L ao c ks := hL.below hb1
    refine (fronts1_in (w.heap.size + 1) L ao c ks hlen (fun j => D j ∨ j = w.heap.size + 1)
      (fun k W => I k W ∧ W.heap[w.heap.size + 1]? = some (.loop (rec .ready none)) ∧ W.heap[w.heap.size]? = some (.deferred (some [])))
      (fun W => ∃ c, Ix c W ∧ W.heap[w.heap.size + 1]? = some (.loop (rec .done (some c))) ∧ W.heap[w.heap.size]? = some (.deferred (some [])))
      (fun e => e.elim hDL (fun e => by omega)) (fun a ha e => e.elim (hDa a ha) (fun e => by have := hau a ha; omega)) ?_ W1 hlog1 ⟨hI 0 w W1 h0 (toOnly hb1), m1, m0⟩).mono ?_
    · rintro k key v W0 W hx ⟨hi, hl0, hk0⟩ hbW hH
      have hlt0 : w.heap.size + 1 < W0.heap.size := (Array.getElem?_eq_some_iff.1 hl0).1
      have hD0 : ¬ Turns D W0.heap.size v w.heap.size := fun e => e.elim (fun e => hDs e.1) (fun e => by have := (World.ownsRow.lt hH _ e).1; omega)
      have hD1 : ¬ Turns D W0.heap.size v (w.heap.size + 1) := fun e => e.elim (fun e => hDt e.1) (fun e => by have := (World.ownsRow.lt hH _ e).1; omega)
      have hl : W.heap[w.heap.size + 1]? = some (.loop (rec .ready none)) := (hbW.block _ hlt0).trans hl0
      have hk : W.heap[w.heap.size]? = some (.deferred (some [])) := (hbW.block _ (by omega)).trans hk0
      have hy := run_yield (P := Tryz.prog) (args := #[v, .string key]) hl (by rw [hrec]; exact hps.symm)
      rw [hrec] at hy
      refine ⟨fn, _, assign, body, hy, roundIn_of_wpIn trivial (wpIn_mono (hround k key v W0 W hx hi hbW hH hlt0) ?_)⟩
      rintro e a1 Wa hp
      cases e with
      | normal =>
        obtain ⟨hoa, hbody⟩ := hp
        have hla : Wa.heap[w.heap.size + 1]? = some (.loop (rec .ready none)) := (hoa.block _ (Array.getElem?_eq_some_iff.1 hl).1 hD1).trans hl
        have hka : Wa.heap[w.heap.size]? = some (.deferred (some [])) := (hoa.block _ (Array.getElem?_eq_some_iff.1 hk).1 hD0).trans hk
        refine ⟨_, run_beginRound hla (by rw [hrec]), ?_⟩
        have hlta := (Array.getElem?_eq_some_iff.1 hla).1
        have hl2 : (Wa.putObj (w.heap.size + 1) (.loop { rec .ready none with state := .busy })).heap[w.heap.size + 1]? = some (.loop { rec .ready none with state := .busy }) := World.putObj_heap_same hlta
        have hk2 : (Wa.putObj (w.heap.size + 1) (.loop { rec .ready none with state := .busy })).heap[w.heap.size]? = some (.deferred (some [])) := (World.putObj_heap_other (by omega)).trans hka
        have hT : ∀ {A B : World}, Only (Turns D W0.heap.size v) A B → Only (Turns (fun j => D j ∨ j = w.heap.size + 1) W0.heap.size v) A B := fun h => h.mono (fun j _ e => e.elim (fun e => .inl ⟨.inl e.1, e.2⟩) .inr)
        have hT2 : ∀ {A B : World}, Only (fun j => j = w.heap.size + 1) A B → Only (Turns (fun j => D j ∨ j = w.heap.size + 1) W0.heap.size v) A B := fun h => h.mono (fun j _ e => .inl ⟨.inr e, by omega⟩)
        have hTw := (hT hoa).trans (hT2 (only_putObj Wa (w.heap.size + 1) (.loop { rec .ready none with state := .busy }))) (fun _ _ h => h)
        refine wpIn_mono (hbody _ (only_putObj Wa _ _)) ?_
        have fin : ∀ (jump : Option Code) (W3 : World), Only (Turns D W0.heap.size v) (Wa.putObj (w.heap.size + 1) (.loop { rec .ready none with state := .busy })) W3 → ∃ W4, (Instr.endRound (w.heap.size + 1) jump).run Tryz.prog W3 = .ok (.bool jump.isNone) W4 ∧ Only (fun j => j = w.heap.size + 1) W3 W4 ∧
            W4.heap[w.heap.size + 1]? = some (.loop (rec (if jump.isNone then .ready else .done) jump)) ∧ W4.heap[w.heap.size]? = some (.deferred (some [])) ∧ Only (Turns (fun j => D j ∨ j = w.heap.size + 1) W0.heap.size v) W W4 := fun jump W3 ho3 => by
          have hl3 := (ho3.block _ (by simpa using hlta) hD1).trans hl2
          have hk3 := (ho3.block _ (by simp; omega) hD0).trans hk2
          have := run_endRound (P := Tryz.prog) jump hl3
          refine ⟨_, this, only_putObj W3 _ _, ?_, (World.putObj_heap_other (by omega)).trans hk3, (hTw.trans (hT ho3) (fun _ _ h => h)).trans (hT2 (only_putObj W3 _ _)) (fun _ _ h => h)⟩
          rw [World.putObj_heap_same (Array.getElem?_eq_some_iff.1 hl3).1, hrec]
        rintro e a3 W3 hp3
        cases e with
        | normal =>
          obtain ⟨ho3, hi3⟩ := hp3
          obtain ⟨W4, hr, ho4, hl4, hk4, hL4⟩ := fin none W3 ho3
          exact ⟨_, _, hr, hL4, .inl ⟨rfl, hI _ _ _ hi3 ho4, hl4, hk4⟩⟩
        | ret =>
          obtain ⟨ho3, hi3⟩ := hp3
          obtain ⟨W4, hr, ho4, hl4, hk4, hL4⟩ := fin (some .ret) W3 ho3
          exact ⟨_, _, hr, hL4, .inr ⟨rfl, .ret, hIx _ _ _ hi3 ho4, hl4, hk4⟩⟩
        | exit id =>
          obtain ⟨ho3, hi3⟩ := hp3
          obtain ⟨W4, hr, ho4, hl4, hk4, hL4⟩ := fin (some (.exit id)) W3 ho3
          exact ⟨_, _, hr, hL4, .inr ⟨rfl, .exit id, hIx _ _ _ hi3 ho4, hl4, hk4⟩⟩
        | goto t =>
          obtain ⟨ho3, hi3⟩ := hp3
          obtain ⟨W4, hr, ho4, hl4, hk4, hL4⟩ := fin (some (.goto t)) W3 ho3
          exact ⟨_, _, hr, hL4, .inr ⟨rfl, .goto t, hIx _ _ _ hi3 ho4, hl4, hk4⟩⟩
        | panic ch => exact hp3.elim
        | outgrown => exact hp3.elim
      | ret => exact hp.elim
      | exit id => exact hp.elim
      | goto t => exact hp.elim
      | panic ch => exact hp.elim
      | outgrown => exact hp.elim
    · rintro e W2 ⟨⟨v, rfl⟩, (⟨hi, hl, hk⟩ | ⟨c, hi, hl, hk⟩)⟩
      · have hlt := (Array.getElem?_eq_some_iff.1 hk).1
        refine ⟨none, _, by have := run_endLoop (P := Tryz.prog) hl (by rw [hrec]; simp); rw [hrec] at this; exact this, hdone _ (hI _ _ _ hi (only_putObj _ _ _)) (by simpa using hlt) ((World.putObj_heap_other (by omega)).trans hk)⟩
      · have hlt := (Array.getElem?_eq_some_iff.1 hk).1
        refine ⟨some c, _, by have := run_endLoop (P := Tryz.prog) hl (by rw [hrec]; simp); rw [hrec] at this; exact this, wpIn_wide.2 (hstop c _ (hIx _ _ _ hi (only_putObj _ _ _)) (by simpa using hlt) ((World.putObj_heap_other (by omega)).trans hk))⟩

end Go.Proofs.YtpepgoelnagoaaaGreatDoor
namespace Go.Proofs.YtpepgoelnagoaaaGreatDoor
open Go.RowKit Go.Shelf
set_option linter.unusedSimpArgs false
attribute [local go_sem] Oper.semAt_some

def pathB (l : List ByteArray) : Bool := decide (l.length ≤ 6) && l.all (fun s => keyB s.data.toList)
/-- Behind k rounds. -/
def Good (ks : List ByteArray) (k : Nat) : Prop := k ≤ 6 ∧ ∀ j s, j < k → ks[j]? = some s → keyB s.data.toList = true
theorem path_yes {l : List ByteArray} (h : Good (l.take 7) (l.take 7).length) : pathB l = true := by
  have h6 := h.1
  rw [List.length_take] at h6
  have hl : l.length ≤ 6 := by omega
  have ht : l.take 7 = l := List.take_of_length_le (by omega)
  rw [ht] at h
  unfold pathB
  rw [Bool.and_eq_true, decide_eq_true_eq, List.all_eq_true]
  refine ⟨hl, fun s hs => ?_⟩
  obtain ⟨j, hj, rfl⟩ := List.getElem_of_mem hs
  exact h.2 j _ hj (List.getElem?_eq_getElem hj)
theorem path_no {l : List ByteArray} {k : Nat} {s : ByteArray} (hs : (l.take 7)[k]? = some s) (h : k = 6 ∨ keyB s.data.toList = false) : pathB l = false := by
  have hk := (List.getElem?_eq_some_iff.1 hs).1
  rw [List.length_take] at hk
  have hs' : l[k]? = some s := by rw [List.getElem?_take] at hs; split at hs; exact hs; cases hs
  cases hp : pathB l with
  | false => rfl
  | true =>
    unfold pathB at hp
    rw [Bool.and_eq_true, decide_eq_true_eq, List.all_eq_true] at hp
    rcases h with h | h
    · omega
    · have := hp.2 s (List.mem_of_getElem? hs')
      rw [this] at h; cases h
/-- The box of the answer. -/
def PaI (w : World) (l : List ByteArray) (x : Bool) (k : Nat) (W : World) : Prop := W.heap[w.heap.size]? = some (.cells #[.bool x] 4 (0, 0)) ∧ Below w.heap.size w W ∧ Good (l.take 7) k
theorem PaI.only {w W W' : World} {l : List ByteArray} {x : Bool} {k : Nat} {D : Nat → Prop} (h : PaI w l x k W) (ho : Only D W W') (hD : ∀ j, D j → w.heap.size + 1 ≤ j) : PaI w l x k W' :=
  ⟨(ho.block _ (Array.getElem?_eq_some_iff.1 h.1).1 (fun e => by have := hD _ e; omega)).trans h.1, Below.only h.2.1 ho h.2.1.size (fun j e => by have := hD j e; omega), h.2.2⟩

set_option maxHeartbeats 1000000 in
set_option maxRecDepth 100000 in
theorem path_any {w : World} {ao : Option Addr} {c : Nat} {l : List ByteArray} (h : Rs w ao l) (hcap : l.length ≤ c) (hn : ao = none → c = 0) (hT : Tabs w) (hlen : l.length ≤ 140737488355328) :
    Calls Tryz.prog 90 #[.slice ao l.length c] w fun e w' => e = .returned (.bool (pathB l)) ∧ Below w.heap.size w w' := by
  obtain ⟨N, hN⟩ : ∃ N, N = l.length := ⟨_, rfl⟩
  obtain ⟨M, hM⟩ : ∃ M, M = (l.take 7).length := ⟨_, rfl⟩
  have hMN : M = min N 7 := by rw [hM, List.length_take, hN]; omega
  have hsl := fun W' => sliceS_hi (ao := ao) (n := N) (c := c) (j := M) (by omega) hn W'
  have hbx : Below w.heap.size w (w.alloc (.cells #[.bool false] 4)) := (Below.refl _ w).alloc (Nat.le_refl _) _
  have hfr := fronts_any (c := c) ((h.take 7).below hbx) (by rw [← hM]; omega)
  rw [← hM] at hfr
  rw [← hN]
  have hmin : (min (N : Int) 7) = (M : Int) := by rw [hMN]; omega
  have hI0 : PaI w l false 0 (w.alloc (.cells #[.bool false] 4)) := ⟨heap_alloc_new w _, hbx, ⟨by omega, fun j s hj => by omega⟩⟩
  have hs0 : (w.alloc (.cells #[.bool false] 4)).heap.size = w.heap.size + 1 := by simp
  have HH := hide (And.intro hN (And.intro hM hMN))
  clear hN hM hMN
  refine calls_marks Tryz.func90 rfl ?_
  simp only [Tryz.ntmps90, List.size_toArray, List.length_cons, List.length_nil, Nat.reduceAdd, Nat.reduceSub, Array.replicate_succ, Array.replicate_zero, List.push_toArray, List.append_toArray, List.nil_append, List.cons_append]
  go_wp2_with (go_at_call 128; refine hfr.mono ?_; rintro e w1 ⟨L, a1, c1, rfl, hK, hL1, hA1, b1⟩)
  have hs1 := b1.size
  rw [hs0] at hs1
  have hI1 : PaI w l false 0 w1 := hI0.only (Only.ofBelow b1) (fun _ d => d.elim)
  rw [hs0] at hL1 hA1
  have hLlt : L < w1.heap.size := World.block_lt_of_cell? _ _ hK.box
  have hret : ∀ (x : Bool) (W : World) (fn : Func) (tmps : Array Value), fn.results = #[.cell 2 4] → tmps.getD 2 undef = .pointer (some ⟨w.heap.size, 0, none⟩) → W.heap[w1.heap.size]? = some (.deferred (some [])) → W.heap[w.heap.size]? = some (.cells #[.bool x] 4 (0, 0)) → Below w.heap.size w W → pathB l = x →
      LeavesInM Fence.wide 6 Tryz.prog fn tmps (fun e w' => e = .returned (.bool (pathB l)) ∧ Below w.heap.size w w') ({ target := .collected w1.heap.size, args := #[] } :: []) .returning W := fun x W fn tmps hres hp hKk hTt hbl hx => by
    have ho := only_putObj W w1.heap.size (.deferred none)
    exact leave_mark hKk (leave_cell w.heap.size (x := x) hres hp (ho.cell (by rw [cell_of_row _ _ 0 _ 4 (0, 0) hTt]; rfl) (by simp only; omega)) ⟨by rw [hx], Below.only hbl ho hbl.size (by intro j e; omega)⟩)
  have HHK := hide (And.intro h (And.intro hT hI1))
  clear h hT hI0 hbx hfr hsl b1
  refine range_fr (Q := _) L a1 c1 (l.take 7) rfl rfl hK (by rw [List.length_take]; omega) (fun j => j = w.heap.size) (by omega) (fun a ha => by have := (hA1 a ha).1; omega) (by omega) (by omega) (fun a ha => (hA1 a ha).2)
    (PaI w l false) (fun cd W => cd = .ret ∧ W.heap[w.heap.size]? = some (.cells #[.bool false] 4 (0, 0)) ∧ Below w.heap.size w W ∧ pathB l = false)
    (fun k W W' hi ho => hi.only ho (by intro j e; omega)) (fun cd W W' hi ho => ⟨hi.1, (ho.block _ (Array.getElem?_eq_some_iff.1 hi.2.1).1 (by omega)).trans hi.2.1, Below.only hi.2.2.1 ho hi.2.2.1.size (by intro j e; omega), hi.2.2.2⟩) HHK.out.2.2 ?hround ?hdone ?hstop
  case hdone =>
    intro W hi hls hKk
    obtain ⟨i1, i2, i3⟩ := hi
    have p1 : W.cell? ⟨w.heap.size, 0, none⟩ = some (.bool false) := by rw [cell_of_row _ _ 0 _ 4 (0, 0) i1]; rfl
    have z1 : W.frozen? ⟨w.heap.size, 0, none⟩ = false := frozen_of_row _ _ 0 _ 4 i1
    have HX := hide (And.intro hKk (And.intro i1 (And.intro i2 (path_yes i3))))
    clear hKk i1 i2 i3 hK
    go_wp2
    obtain ⟨hKk, i1, i2, hy⟩ := HX.out
    have ho := Only.ofGrown (grown_setCell W ⟨w.heap.size, 0, none⟩ (.bool true))
    refine hret true _ Tryz.f90 _ rfl rfl ((ho.block _ (Array.getElem?_eq_some_iff.1 hKk).1 (fun e => by have e' : w.heap.size = w1.heap.size := (by injection e); omega)).trans hKk) ?_ (Below.only i2 ho i2.size (fun j e => by have e' : w.heap.size = j := (by injection e); omega)) hy
    rw [heap_setCell_same _ _ _ _ 4 _ i1]; rfl
  case hstop =>
    rintro cd W ⟨rfl, hTt, hbl, hno⟩ hls hKk
    have HX := hide (And.intro hKk (And.intro hTt (And.intro hbl hno)))
    clear hKk hTt hbl hno hK
    go_wp2
    exact hret false _ Tryz.f90 _ rfl rfl HX.out.1 HX.out.2.1 HX.out.2.2.1 HX.out.2.2.2
  case hround =>
    intro k key v W0 W hx hi hbW0 hO hls
    have hkl := (List.getElem?_eq_some_iff.1 hx).1
    obtain ⟨av, cv, rfl, -, -, -, -⟩ := hO.shape
    have htk : ((l.take 7).take k).length = k := by rw [List.length_take]; omega
    rw [htk] at hO ⊢
    gi_wp2
    refine ⟨Only.refl _ W, fun W2 ho2 => ?_⟩
    have hi2 : PaI w l false k W2 := (hi.only (Only.ofBelow hbW0) (fun _ d => d.elim)).only ho2 (by intro j e; omega)
    have hsz2 : w.heap.size < W0.heap.size := by omega
    have p1 : W2.cell? ⟨w.heap.size, 0, none⟩ = some (.bool false) := by rw [cell_of_row _ _ 0 _ 4 (0, 0) hi2.1]; rfl
    have z1 : W2.frozen? ⟨w.heap.size, 0, none⟩ = false := frozen_of_row _ _ 0 _ 4 hi2.1
    have hky := key_any key W2 (Tabs.below HHK.out.2.1 hi2.2.1)
    have hstop : ∀ W3 : World, Below W2.heap.size W2 W3 → pathB l = false → Only (Turns (fun j => j = w.heap.size) W0.heap.size (.slice av k cv)) W2 (W3.setCell ⟨w.heap.size, 0, none⟩ (.bool false)) ∧ (W3.setCell ⟨w.heap.size, 0, none⟩ (.bool false)).heap[w.heap.size]? = some (.cells #[.bool false] 4 (0, 0)) ∧ Below w.heap.size w (W3.setCell ⟨w.heap.size, 0, none⟩ (.bool false)) := fun W3 b3 _ => by
      have i3 := hi2.only (Only.ofBelow b3) (fun _ d => d.elim)
      refine ⟨(((Only.ofBelow b3).mono (fun _ _ d => d.elim)).setCell _ _ (fun _ => .inl ⟨rfl, hsz2⟩)), ?_, i3.2.1.setCell (p := ⟨w.heap.size, 0, none⟩) (Nat.le_refl _) _⟩
      rw [heap_setCell_same _ _ _ _ 4 _ i3.1]; rfl
    have HS := hide hstop
    have HI2 := hide hi2
    clear hi hi2 hO hbW0 ho2 hstop hK
    by_cases h6 : k = 6
    · have h6b : ((k : Int) == 6) = true := by simp [h6]
      have hno := path_no hx (.inl h6)
      have HN := hide hno
      clear hno h6 hky hx
      gi_wp2_with (refine ⟨trivial, ?_⟩)
      obtain ⟨q1, q2, q3⟩ := HS.out W2 (Below.refl _ _) HN.out
      exact ⟨q1, rfl, q2, q3, HN.out⟩
    · have h6b : ((k : Int) == 6) = false := by simp; omega
      cases hkb : keyB key.data.toList with
      | false =>
        rw [hkb] at hky
        have hno := path_no hx (.inr hkb)
        have HN := hide hno
        clear hno h6 hx hkb
        gi_wp2_with (refine ⟨trivial, ?_⟩; gi_at_call 91; refine (callsIn_wide.2 hky).mono ?_; rintro e W3 ⟨rfl, b3⟩; have p3 := (b3.cell (World.block_lt_of_cell? _ _ p1)).trans p1; have z3 : W3.frozen? ⟨w.heap.size, 0, none⟩ = false := frozen_of_row _ _ 0 _ 4 ((b3.block _ (Array.getElem?_eq_some_iff.1 HI2.out.1).1).trans HI2.out.1))
        obtain ⟨q1, q2, q3⟩ := HS.out W3 b3 HN.out
        exact ⟨q1, rfl, q2, q3, HN.out⟩
      | true =>
        rw [hkb] at hky
        have hgd : Good (l.take 7) (k + 1) := by
          have hg := HI2.out.2.2
          refine ⟨by have := hg.1; omega, fun j s hj hs => ?_⟩
          by_cases hjk : j = k
          · subst hjk
            rw [hx] at hs
            cases hs
            exact hkb
          · exact hg.2 j s (by omega) hs
        have HG := hide hgd
        clear hgd h6 hx hkb
        gi_wp2_with (refine ⟨trivial, ?_⟩; gi_at_call 91; refine (callsIn_wide.2 hky).mono ?_; rintro e W3 ⟨rfl, b3⟩)
        refine ⟨(Only.ofBelow b3).mono (fun _ _ d => d.elim), ?_⟩
        have i3 := HI2.out.only (Only.ofBelow b3) (fun _ d => d.elim)
        exact ⟨i3.1, i3.2.1, HG.out⟩
end Go.Proofs.YtpepgoelnagoaaaGreatDoor
namespace Go.Proofs.YtpepgoelnagoaaaGreatDoor
open Go.RowKit Go.Shelf
set_option linter.unusedSimpArgs false

theorem info61 : (Tryz.prog.info? 179).map (·.size) = some 2 := by kernel_rfl
theorem lies61 : liesAt Tryz.prog Tryz.prog.depth 179 (2 / Tryz.prog.cellsOf 179) 0 179 1 = true := by kernel_rfl

/-- The builder in block b, its buffer v (from B on), its bytes l. -/
def Bd (w : World) (B b : Nat) (v : Value) (l : List UInt8) : Prop :=
  (∃ p, (p = .pointer none ∨ p = .pointer (some ⟨b, 0, none⟩)) ∧ w.heap[b]? = some (.cells #[p, v] 179 (0, 0))) ∧ w.ownsRow B 5 1 v l.length (Lib.byteCells l) ∧ v.ownBlock ≠ some b
theorem Bd.lt {w : World} {B b : Nat} {v : Value} {l : List UInt8} (h : Bd w B b v l) : b < w.heap.size := by
  obtain ⟨⟨p, _, hb⟩, _⟩ := h
  exact (Array.getElem?_eq_some_iff.1 hb).1
theorem Bd.blk {w : World} {B b : Nat} {v : Value} {l : List UInt8} (h : Bd w B b v l) : ∀ k, v.ownBlock = some k → B ≤ k ∧ k < w.heap.size := World.ownsRow.lt h.2.1
theorem Bd.only {w w' : World} {B b : Nat} {v : Value} {l : List UInt8} {D : Nat → Prop} (h : Bd w B b v l) (ho : Only D w w') (hb : ¬ D b) (hv : ∀ k, v.ownBlock = some k → ¬ D k) : Bd w' B b v l := by
  have hlt := h.lt
  obtain ⟨⟨p, hp, hc⟩, h3, h4⟩ := h
  exact ⟨⟨p, hp, (ho.block b hlt hb).trans hc⟩, ho.row h3 hv, h4⟩
theorem row_lift {w : World} {B B' e n : Nat} {v : Value} {xs : List Value} (h : w.ownsRow B e 1 v n xs) (hB : B' ≤ B) : w.ownsRow B' e 1 v n xs := by
  refine ⟨h.1, ?_⟩
  rcases h.2 with h2 | ⟨g, cap, cur, h1, h2, h3⟩
  · exact .inl h2
  · exact .inr ⟨g, cap, cur, h1, by omega, h3⟩
theorem Bd.is {w : World} {B B' b : Nat} {v : Value} {l : List UInt8} (h : Bd w B b v l) (hb : B' ≤ b) (hB : B' ≤ B) : Lib.IsBuilder 179 5 B' b (Lib.byteCells l) w := by
  obtain ⟨⟨p, hp, hc⟩, h3, h4⟩ := h
  rcases hp with rfl | rfl
  · exact .inl ⟨hb, v, hc, by rw [Lib.byteCells_length]; exact row_lift h3 hB, h4⟩
  · exact .inr ⟨hb, v, hc, by rw [Lib.byteCells_length]; exact row_lift h3 hB, h4⟩
theorem Bd.fresh (w : World) (B : Nat) : Bd (w.alloc (.cells #[.pointer none, .slice none 0 0] 179)) B w.heap.size (.slice none 0 0) [] :=
  ⟨⟨_, .inl rfl, heap_alloc_new w _⟩, World.ownsRow_nil _ _ _ _, by simp [Value.ownBlock]⟩
/-- What the builder holds, as a text. -/
theorem string_any {w : World} {B B' b : Nat} {v : Value} {l : List UInt8} (h : Bd w B b v l) (hb : B' ≤ b) (hB : B' ≤ B) (hBw : B' ≤ w.heap.size) : Calls Tryz.prog 137 #[.pointer (some ⟨b, 0, none⟩)] w fun e w' => e = .returned (.string ⟨l.toArray⟩) ∧ Below B' w w' :=
  Tryz.Builder_String_any B' b l w (h.is hb hB) hBw

set_option maxHeartbeats 1000000 in
set_option maxRecDepth 100000 in
theorem check_used (b : Nat) (w : World) (h0 : w.cell? ⟨b, 0, none⟩ = some (.pointer (some ⟨b, 0, none⟩))) :
    Calls Tryz.prog 169 #[.pointer (some ⟨b, 0, none⟩)] w fun e w' => e = .returned (.tuple #[]) ∧ w' = w := by
  obtain ⟨j, hj, _⟩ := Option.map_eq_some_iff.1 info61
  go_enter Tryz.func169, Tryz.ntmps169
  go_wp2
  rw [Lib.run_neq_ptr_same w _ Tryz.underlying177 hj]
  go_wp2
  go_end0
  exact ⟨rfl, rfl⟩

set_option maxHeartbeats 1000000 in
set_option maxRecDepth 100000 in
theorem check_fresh (b : Nat) (w : World) (h0 : w.cell? ⟨b, 0, none⟩ = some (.pointer none)) (hsh : w.shape? b = some (179, 2)) (hfz : w.frozen? ⟨b, 0, none⟩ = false) :
    Calls Tryz.prog 169 #[.pointer (some ⟨b, 0, none⟩)] w fun e w' => e = .returned (.tuple #[]) ∧ w' = w.setCell ⟨b, 0, none⟩ (.pointer (some ⟨b, 0, none⟩)) := by
  obtain ⟨j, hj, hjs⟩ := Option.map_eq_some_iff.1 info61
  go_enter Tryz.func169, Tryz.ntmps169
  go_wp2
  rw [Lib.run_to_unsafe w ⟨b, 0, none⟩ Tryz.underlying177 Tryz.underlying245 hj (by rw [hjs]; decide) hsh (Nat.zero_lt_succ 1)]
  simp only [Result.andThen]
  rw [Oper.upon_value]
  go_wp2
  rw [run_callFunc_extern Tryz.func190 (by kernel_rfl) (by kernel_rfl) (by kernel_rfl) (e := Extern.AbiNoEscape.same) (by kernel_rfl)]
  rw [Lib.run_noEscape]
  simp only [Result.andThen]
  rw [Oper.upon_value]
  go_wp2
  rw [Lib.run_from_unsafe w ⟨b, 0, none⟩ Tryz.underlying245 Tryz.underlying177 hj hsh lies61]
  simp only [Result.andThen]
  rw [Oper.upon_value]
  go_wp2
  go_end0
  exact ⟨rfl, rfl⟩

theorem check_any {w : World} {B b : Nat} {v : Value} {l : List UInt8} (h : Bd w B b v l) :
    Calls Tryz.prog 169 #[.pointer (some ⟨b, 0, none⟩)] w fun e w' => e = .returned (.tuple #[]) ∧ w'.heap[b]? = some (.cells #[.pointer (some ⟨b, 0, none⟩), v] 179 (0, 0)) ∧ Only (fun k => k = b) w w' := by
  obtain ⟨⟨p, hp, hc⟩, h3, h4⟩ := h
  rcases hp with rfl | rfl
  · refine (check_fresh b w (by rw [Lib.cell_of_heap hc]; rfl) (by simp [World.shape?, hc]) (Lib.frozen_of_heap hc 0)).mono ?_
    rintro e w' ⟨rfl, rfl⟩
    exact ⟨rfl, by simp [World.setCell, Array.getElem?_modify, hc], (Only.refl _ w).setCell ⟨b, 0, none⟩ _ (fun _ => rfl)⟩
  · refine (check_used b w (by rw [Lib.cell_of_heap hc]; rfl)).mono ?_
    rintro e w' ⟨rfl, rfl⟩
    exact ⟨rfl, hc, Only.refl _ _⟩

/-- What a write leaves. -/
def Wrote (w w' : World) (B b : Nat) (v : Value) (l : List UInt8) : Prop :=
  ∃ v', Bd w' B b v' l ∧ Only (fun k => k = b ∨ v.ownBlock = some k) w w'

set_option maxHeartbeats 2000000 in
set_option maxRecDepth 100000 in
theorem writeByte_any {w : World} {B b : Nat} {v : Value} {l : List UInt8} (c : UInt8) (h : Bd w B b v l) (hlen : l.length + 1 ≤ 140737488355328) (hBw : B ≤ w.heap.size) :
    Calls Tryz.prog 135 #[.pointer (some ⟨b, 0, none⟩), .int .u8 (c.toNat : Int)] w fun e w' => e = .returned .nilIface ∧ Wrote w w' B b v (l ++ [c]) := by
  obtain ⟨i0, hi, hz0, hz1, hz2⟩ := info_parts Tryz.info5
  have hck := check_any h
  have hown0 := h.2.1
  have hne := h.2.2
  have hlt0 := h.lt
  generalize hcc : (c.toNat : Int) = cc
  go_enter Tryz.func135, Tryz.ntmps135
  go_wp2_with (go_at_call 169; refine hck.mono ?_)
  rintro e w1 ⟨rfl, hbk, o1⟩
  have hs1 := o1.size
  have hown : w1.ownsRow B 5 1 v l.length (Lib.byteCells l) := o1.row hown0 (fun k hk e => hne (by rw [hk, e]))
  have c0 : w1.cell? ⟨b, 0, none⟩ = some (.pointer (some ⟨b, 0, none⟩)) := by rw [Lib.cell_of_heap hbk]; rfl
  have c1 : w1.cell? ⟨b, 1, none⟩ = some v := by rw [Lib.cell_of_heap hbk]; rfl
  go_wp2_with (at_builtin; refine wpList_append_own _ rfl _ _ 26 rfl B 5 i0 (.int .u8 0) 1 1 Tryz.underlying26 hi hz0 hz1 hz2 rfl (by decide) _ _ _ rfl (hown.alloc _) ⟨w1.heap.size, 0, none⟩ 1 1 [.int .u8 cc] rfl rfl ?c1 ?c2 ?c3 ?c4 ?c5 ?_)
  case c1 =>
    intro j u hj
    match j, hj with
    | 0, hj => simp at hj; subst hj; simp [Addr.add]
  case c2 => intro u hu; simp at hu; subst hu; rfl
  case c3 => unfold maxLen; omega
  case c4 => omega
  case c5 => simp; omega
  intro v' w2 hown' hgrow _
  have hb2 : w2.heap[b]? = some (.cells #[.pointer (some ⟨b, 0, none⟩), v] 179 (0, 0)) := by
    rw [hgrow.block b (by simp; omega) (fun e => hne e.symm), Lib.alloc_old w1 _ b (by omega)]
    exact hbk
  have d0 : w2.cell? ⟨b, 0, none⟩ = some (.pointer (some ⟨b, 0, none⟩)) := by rw [Lib.cell_of_heap hb2]; rfl
  have d1 : w2.cell? ⟨b, 1, none⟩ = some v := by rw [Lib.cell_of_heap hb2]; rfl
  have f1 : w2.frozen? ⟨b, 1, none⟩ = false := Lib.frozen_of_heap hb2 1
  have hnb : v'.ownBlock ≠ some b := Lib.ownBlock_ne hown' hb2 (by decide)
  obtain ⟨g, cap, rfl⟩ : ∃ g cap, v' = .slice (some ⟨g, 0, none⟩) (l.length + 1) cap := by
    rcases hown'.2 with ⟨_, h0⟩ | ⟨g, cap, cur, hv, _⟩
    · omega
    · exact ⟨g, cap, hv⟩
  go_wp2
  go_ret
  have o2 : Only (fun k => k = b ∨ v.ownBlock = some k) w w2 := ((o1.mono (fun k _ e => .inl e)).alloc _).trans (Only.ofGrown hgrow) (fun k _ e => .inr e)
  refine ⟨rfl, _, ⟨⟨_, .inr rfl, ?_⟩, ?_, hnb⟩, o2.setCell _ _ (fun _ => .inl rfl)⟩
  · simp [World.setCell, Array.getElem?_modify, hb2]
  · have hw : w2.ownsRow B 5 1 (.slice (some ⟨g, 0, none⟩) (l.length + 1) cap) (l ++ [c]).length (Lib.byteCells (l ++ [c])) := by
      have e1 : Lib.byteCells (l ++ [c]) = Lib.byteCells l ++ [.int .u8 cc] := by rw [← hcc]; simp [Lib.byteCells]
      rw [e1, List.length_append]
      exact hown'
    exact hw.kept (row := some b) ⟨rfl, rfl, rfl, by simp [World.setCell], fun k _ hk => Below.heap_setCell _ _ _ _ (fun e => hk (by simp [e]))⟩ (Or.inr hnb)
set_option maxHeartbeats 2000000 in
set_option maxRecDepth 100000 in
theorem writeString_any {w : World} {B b : Nat} {v : Value} {l : List UInt8} (s : ByteArray) (h : Bd w B b v l) (hlen : l.length + s.size ≤ 140737488355328) (hBw : B ≤ w.heap.size) :
    Calls Tryz.prog 136 #[.pointer (some ⟨b, 0, none⟩), .string s] w fun e w' => e = .returned (.tuple #[.int .i64 s.size, .nilIface]) ∧ Wrote w w' B b v (l ++ s.data.toList) := by
  obtain ⟨i0, hi, hz0, hz1, hz2⟩ := info_parts Tryz.info5
  have hck := check_any h
  have hown0 := h.2.1
  have hne := h.2.2
  have hlt0 := h.lt
  go_enter Tryz.func136, Tryz.ntmps136
  go_wp2_with (go_at_call 169; refine hck.mono ?_)
  rintro e w1 ⟨rfl, hbk, o1⟩
  have hs1 := o1.size
  have hown : w1.ownsRow B 5 1 v l.length (Lib.byteCells l) := o1.row hown0 (fun k hk e => hne (by rw [hk, e]))
  have c0 : w1.cell? ⟨b, 0, none⟩ = some (.pointer (some ⟨b, 0, none⟩)) := by rw [Lib.cell_of_heap hbk]; rfl
  have c1 : w1.cell? ⟨b, 1, none⟩ = some v := by rw [Lib.cell_of_heap hbk]; rfl
  go_wp2_with (at_builtin; refine Lib.wpList_append_own_string _ rfl _ _ 26 9 rfl B 5 i0 Tryz.underlying26 Tryz.underlying9 hi hz0 hz1 hz2 _ _ _ rfl hown s rfl ?c3 ?c4 ?c5 ?_)
  case c3 => unfold maxLen; omega
  case c4 => omega
  case c5 => omega
  intro v' w2 hown' hgrow _
  have hb2 : w2.heap[b]? = some (.cells #[.pointer (some ⟨b, 0, none⟩), v] 179 (0, 0)) := by
    rw [hgrow.block b (by omega) (fun e => hne e.symm)]
    exact hbk
  have d0 : w2.cell? ⟨b, 0, none⟩ = some (.pointer (some ⟨b, 0, none⟩)) := by rw [Lib.cell_of_heap hb2]; rfl
  have d1 : w2.cell? ⟨b, 1, none⟩ = some v := by rw [Lib.cell_of_heap hb2]; rfl
  have f1 : w2.frozen? ⟨b, 1, none⟩ = false := Lib.frozen_of_heap hb2 1
  have hnb : v'.ownBlock ≠ some b := Lib.ownBlock_ne hown' hb2 (by decide)
  obtain ⟨ao, n', cap, rfl⟩ : ∃ ao n' cap, v' = .slice ao n' cap := by
    rcases hown'.2 with ⟨hv, _⟩ | ⟨g, cap, cur, hv, _⟩
    · exact ⟨_, _, _, hv⟩
    · exact ⟨_, _, _, hv⟩
  go_wp2
  go_ret2
  have o2 : Only (fun k => k = b ∨ v.ownBlock = some k) w w2 := (o1.mono (fun k _ e => .inl e)).trans (Only.ofGrown hgrow) (fun k _ e => .inr e)
  refine ⟨rfl, _, ⟨⟨_, .inr rfl, ?_⟩, ?_, hnb⟩, o2.setCell _ _ (fun _ => .inl rfl)⟩
  · simp [World.setCell, Array.getElem?_modify, hb2]
  · have hw : w2.ownsRow B 5 1 (.slice ao n' cap) (l ++ s.data.toList).length (Lib.byteCells (l ++ s.data.toList)) := by
      have e1 : Lib.byteCells (l ++ s.data.toList) = Lib.byteCells l ++ Lib.strCells s := by simp [Lib.byteCells, Lib.strCells]
      rw [e1, List.length_append, ← Lib.size_eq]
      exact hown'
    exact hw.kept (row := some b) ⟨rfl, rfl, rfl, by simp [World.setCell], fun k _ hk => Below.heap_setCell _ _ _ _ (fun e => hk (by simp [e]))⟩ (Or.inr hnb)
end Go.Proofs.YtpepgoelnagoaaaGreatDoor
namespace Go.Proofs.YtpepgoelnagoaaaGreatDoor
open Go.RowKit Go.Shelf
set_option linter.unusedSimpArgs false

def joinB (l : List ByteArray) : List UInt8 := if l = [] then [47] else l.flatMap (fun s => 47 :: s.data.toList)
theorem path_sizes {l : List ByteArray} (h : pathB l = true) : l.length ≤ 6 ∧ ∀ s ∈ l, s.size ≤ 64 := by
  unfold pathB at h
  rw [Bool.and_eq_true, decide_eq_true_eq, List.all_eq_true] at h
  refine ⟨h.1, fun s hs => ?_⟩
  have := h.2 s hs
  unfold keyB at this
  simp only [Bool.and_eq_true, decide_eq_true_eq] at this
  rw [Lib.size_eq]
  exact this.1.1.2
theorem flatJ_length (l : List ByteArray) (h : ∀ s ∈ l, s.size ≤ 64) : (l.flatMap (fun s => 47 :: s.data.toList)).length ≤ 65 * l.length := by
  induction l with
  | nil => simp
  | cons b l ih =>
    have h1 := h b (by simp)
    have h2 := ih (fun s hs => h s (by simp [hs]))
    rw [List.flatMap_cons, List.length_append]
    rw [Lib.size_eq] at h1
    simp only [List.length_cons]
    omega
theorem flatJ_take (l : List ByteArray) (i : Nat) (s : ByteArray) (h : l[i]? = some s) : (l.take (i + 1)).flatMap (fun s => 47 :: s.data.toList) = (l.take i).flatMap (fun s => 47 :: s.data.toList) ++ [47] ++ s.data.toList := by
  obtain ⟨h1, rfl⟩ := List.getElem?_eq_some_iff.1 h
  rw [List.take_succ_eq_append_getElem h1, List.flatMap_append]
  simp
def joinE (l : List ByteArray) : Value := if pathB l then .tuple #[.string ⟨(joinB l).toArray⟩, .int .i64 0] else .tuple #[.string ⟨#[]⟩, .int .i64 2]

set_option maxHeartbeats 2000000 in
set_option maxRecDepth 100000 in
theorem joinK_any {w : World} {ao : Option Addr} {c : Nat} {l : List ByteArray} (h : Rs w ao l) (hcap : l.length ≤ c) (hn : ao = none → c = 0) (hT : Tabs w) (hlen : l.length ≤ 140737488355328) :
    Calls Tryz.prog 101 #[.slice ao l.length c] w fun e w' => e = .returned (joinE l) ∧ Below w.heap.size w w' := by
  have hp := path_any h hcap hn hT hlen
  unfold joinE
  cases hpb : pathB l with
  | false =>
    rw [hpb] at hp
    go_enter Tryz.func101, Tryz.ntmps101
    go_wp2_with (go_at_call 90; refine hp.mono ?_; rintro e w1 ⟨rfl, b1⟩)
    go_ret2
    exact ⟨rfl, b1⟩
  | true =>
    rw [hpb] at hp
    obtain ⟨hl6, hsz⟩ := path_sizes hpb
    simp only [if_true]
    by_cases h0 : l = []
    · subst h0
      go_enter Tryz.func101, Tryz.ntmps101
      go_wp2_with (go_at_call 90; refine hp.mono ?_; rintro e w1 ⟨rfl, b1⟩)
      go_ret2
      exact ⟨rfl, b1⟩
    · rw [joinB, if_neg h0]
      have hl0 : 0 < l.length := List.length_pos_iff.2 h0
      obtain ⟨N, hN⟩ : ∃ N, N = l.length := ⟨_, rfl⟩
      rw [← hN] at hp hl0 hl6 ⊢
      have hz : ((N : Int) == 0) = false := by simp; omega
      have H := hide (And.intro hN (And.intro h hsz))
      clear hN h hsz h0 hpb hcap hlen
      go_enter Tryz.func101, Tryz.ntmps101
      go_wp2_with (go_at_call 90; refine hp.mono ?_; rintro e w1 ⟨rfl, b1⟩)
      have hs1 := b1.size
      have hbA : Below w.heap.size w (w1.alloc (.cells #[.pointer none, .slice none 0 0] 179)) := b1.alloc hs1 _
      have hf0 := Bd.fresh w1 (w1.heap.size + 1)
      have HI := hide (And.intro hbA hf0)
      clear hbA hf0
      go_loopw [15] (fun iv wr => ∃ (i : Nat) (v : Value), i ≤ N ∧ iv = .int .i64 i ∧ Hid (Bd wr (w1.heap.size + 1) w1.heap.size v ((l.take i).flatMap (fun s => 47 :: s.data.toList))) ∧ Hid (Below w.heap.size w wr) ∧ w1.heap.size + 1 ≤ wr.heap.size) (fun iv _ => N - (intOf iv).toNat)
      case atStart => exact ⟨0, _, Nat.zero_le _, rfl, hide (by simpa using HI.out.2), hide HI.out.1, by simp⟩
      case round =>
        obtain ⟨i, v, hi, rfl, HB, HW, hsw⟩ := hrel
        by_cases hlt : i < N
        · have hlt' : (i : Int) < (N : Int) := by omega
          have hdl : decide (i < N) = true := by simpa using hlt
          obtain ⟨s, hs⟩ : ∃ s, l[i]? = some s := ⟨_, List.getElem?_eq_getElem (by rw [← H.out.1]; exact hlt)⟩
          obtain ⟨ab, off, rfl, hcs⟩ := (H.out.2.1.below HW.out).at hs
          have hss := H.out.2.2 s (List.mem_of_getElem? hs)
          have hft := flatJ_take l i s hs
          have hacc : ((l.take i).flatMap (fun s => 47 :: s.data.toList)).length ≤ 400 := by
            have := flatJ_length (l.take i) (fun s hs => H.out.2.2 s (List.mem_of_mem_take hs))
            have h2 : (l.take i).length ≤ 6 := by rw [List.length_take]; omega
            omega
          obtain ⟨acc, hac⟩ : ∃ acc, acc = (l.take i).flatMap (fun s => 47 :: s.data.toList) := ⟨_, rfl⟩
          rw [← hac] at HB hft hacc
          have HF := hide hft
          have hw47 : Calls Tryz.prog 135 #[.pointer (some ⟨w1.heap.size, 0, none⟩), .int .u8 47] wr fun e w' => e = .returned .nilIface ∧ Wrote wr w' (w1.heap.size + 1) w1.heap.size v (acc ++ [47]) := writeByte_any 47 HB.out (by omega) hsw
          have hwS : ∀ W v', Bd W (w1.heap.size + 1) w1.heap.size v' (acc ++ [47]) → w1.heap.size + 1 ≤ W.heap.size → Calls Tryz.prog 136 #[.pointer (some ⟨w1.heap.size, 0, none⟩), .string s] W fun e w' => e = .returned (.tuple #[.int .i64 s.size, .nilIface]) ∧ Wrote W w' (w1.heap.size + 1) w1.heap.size v' (acc ++ [47] ++ s.data.toList) := fun W v' hb hW => writeString_any s hb (by simp only [List.length_append, List.length_cons, List.length_nil]; omega) hW
          clear hft hac hs
          go_wp2_with (first
            | (go_at_call 135; refine hw47.mono ?_; rintro e W2 ⟨rfl, v2, hB2, o2⟩; have hS2 := hwS W2 v2 hB2 (Nat.le_trans hsw o2.size))
            | (go_at_call 136; refine hS2.mono ?_; rintro e W3 ⟨rfl, v3, hB3, o3⟩))
          go_roundw
          case rel =>
            have hD2 : ∀ k, (k = w1.heap.size ∨ v.ownBlock = some k) → w.heap.size ≤ k := fun k e => by
              rcases e with e | e
              · omega
              · have := (HB.out.blk k e).1; omega
            have hD3 : ∀ k, (k = w1.heap.size ∨ v2.ownBlock = some k) → w.heap.size ≤ k := fun k e => by
              rcases e with e | e
              · omega
              · have := (hB2.blk k e).1; omega
            have t2 := Below.only HW.out o2 HW.out.size hD2
            exact ⟨i + 1, v3, by omega, by go_num, hide (by rw [HF.out]; exact hB3), hide (Below.only t2 o3 t2.size hD3), Nat.le_trans hsw (Nat.le_trans o2.size o3.size)⟩
          case measure => simp [intOf]; omega
        · obtain rfl : i = N := by omega
          have hdl : decide (i < i) = false := by simp
          have hst := string_any HB.out (B' := w.heap.size) (by omega) (by omega) HW.out.size
          rw [List.take_of_length_le (by rw [← H.out.1]; omega)] at hst
          have HW' := hide HW.out
          clear HB HI H HW
          go_wp2_with (go_at_call 137; refine hst.mono ?_; rintro e w' ⟨rfl, b9⟩)
          go_ret2
          exact ⟨rfl, HW'.out.trans b9⟩
end Go.Proofs.YtpepgoelnagoaaaGreatDoor
namespace Go.Proofs.YtpepgoelnagoaaaGreatDoor
open Go.RowKit Go.Shelf
set_option linter.unusedSimpArgs false

theorem Rs.drewN {w : World} {ao : Option Addr} {l : List ByteArray} (h : Rs w ao l) (n : Nat) : Rs (w.drewN n) ao l := h.below ⟨rfl, rfl, rfl, Nat.le_refl _, fun _ _ => rfl⟩
end Go.Proofs.YtpepgoelnagoaaaGreatDoor
namespace Go.Proofs.YtpepgoelnagoaaaGreatDoor
open Go.RowKit Go.Shelf
set_option linter.unusedSimpArgs false

end Go.Proofs.YtpepgoelnagoaaaGreatDoor
namespace Go.Proofs.YtpepgoelnagoaaaGreatDoor

/-- An order by -1, 0, 1. -/
structure Ord {α : Type} (f : α → α → Int) : Prop where
  range : ∀ a b, f a b = -1 ∨ f a b = 0 ∨ f a b = 1
  anti : ∀ a b, f a b = - f b a
  eq : ∀ a b, f a b = 0 → a = b
  trans : ∀ a b c, f a b = -1 → f b c = -1 → f a c = -1
theorem Ord.refl {α : Type} {f : α → α → Int} (h : Ord f) (a : α) : f a a = 0 := by have := h.anti a a; omega

theorem ba_eq {a b : ByteArray} (h : a.data.toList = b.data.toList) : a = b := ByteArray.ext (Array.toList_inj.1 h)
/-! ### Joined and split -/
theorem cut_none : ∀ x : List UInt8, x.all keyByte = true → cut47 x = (x, [], false)
  | [], _ => rfl
  | b :: t, h => by
    rw [List.all_cons, Bool.and_eq_true] at h
    have hb : b ≠ 47 := fun e => by subst e; exact absurd h.1 (by decide)
    rw [cut47, if_neg hb, cut_none t h.2]
theorem cut_at : ∀ (x r : List UInt8), x.all keyByte = true → cut47 (x ++ 47 :: r) = (x, r, true)
  | [], r, _ => by simp [cut47]
  | b :: t, r, h => by
    rw [List.all_cons, Bool.and_eq_true] at h
    have hb : b ≠ 47 := fun e => by subst e; exact absurd h.1 (by decide)
    rw [List.cons_append, cut47, if_neg hb, cut_at t r h.2]
theorem key_all {x : List UInt8} (h : keyB x = true) : x.all keyByte = true ∧ 1 ≤ x.length := by
  unfold keyB at h
  simp only [Bool.and_eq_true, decide_eq_true_eq] at h
  exact ⟨h.2, h.1.1.1⟩
theorem split_go : ∀ (t : List ByteArray) (x : ByteArray) (acc : List (List UInt8)) (n : Nat), (∀ s ∈ x :: t, keyB s.data.toList = true) → acc.length + t.length ≤ 5 → t.length < n →
    splitGo n acc (x.data.toList ++ t.flatMap (fun s => 47 :: s.data.toList)) = some (acc ++ (x :: t).map (fun s => s.data.toList))
  | [], x, acc, n + 1, hk, ha, _ => by
    have kx := hk x (by simp)
    rw [List.flatMap_nil, List.append_nil, splitGo, cut_none _ (key_all kx).1]
    simp only [kx]
    rw [if_neg (by simp at ha; simp; omega)]
    simp
  | y :: t, x, acc, n + 1, hk, ha, hn => by
    have kx := hk x (by simp)
    have e : x.data.toList ++ (y :: t).flatMap (fun s => 47 :: s.data.toList) = x.data.toList ++ 47 :: (y.data.toList ++ t.flatMap (fun s => 47 :: s.data.toList)) := by simp
    rw [e, splitGo, cut_at _ _ (key_all kx).1]
    simp only [kx]
    rw [if_neg (by simp at ha; simp; omega)]
    simp only [if_true]
    rw [split_go t y (acc ++ [x.data.toList]) n (fun s hs => hk s (by simp at hs ⊢; right; exact hs)) (by simp at ha ⊢; omega) (by simp at hn; omega)]
    simp
theorem path_keys {l : List ByteArray} (h : pathB l = true) : l.length ≤ 6 ∧ ∀ s ∈ l, keyB s.data.toList = true := by
  unfold pathB at h
  rw [Bool.and_eq_true, decide_eq_true_eq, List.all_eq_true] at h
  exact h
theorem split_join {l : List ByteArray} (h : pathB l = true) : splitB (joinB l) = some (l.map (fun s => s.data.toList)) := by
  obtain ⟨h6, hk⟩ := path_keys h
  cases l with
  | nil => rfl
  | cons x t =>
    have e : joinB (x :: t) = 47 :: (x.data.toList ++ t.flatMap (fun s => 47 :: s.data.toList)) := by simp [joinB]
    have hx := (key_all (hk x (by simp))).2
    rw [e, splitB]
    have hp : Lib.hasPrefix (47 :: (x.data.toList ++ t.flatMap (fun s => 47 :: s.data.toList))) [47] = true := by simp [Lib.hasPrefix]
    rw [if_pos hp, List.drop_one, List.tail_cons, if_neg (by intro e0; have := congrArg List.length e0; simp at this; simp [this.1] at hx)]
    rw [split_go t x [] 8 hk (by simp at h6 ⊢; omega) (by simp at h6; omega)]
    simp
theorem keysOf_map (l : List ByteArray) : keysOf (l.map (fun s => s.data.toList)) = l := by
  unfold keysOf
  rw [List.map_map]
  conv => rhs; rw [← List.map_id l]
  apply List.map_congr_left
  intro s _
  exact ba_eq rfl
theorem join_length {l : List ByteArray} (h : pathB l = true) : (joinB l).length ≤ 400 := by
  obtain ⟨h6, hs⟩ := path_sizes h
  unfold joinB
  split
  · simp
  · have := flatJ_length l hs; omega
end Go.Proofs.YtpepgoelnagoaaaGreatDoor
