/-
  A RANGE OVER All: the closure that All answers goes over the log as it was; a law for the statement 'for i, w := range d.All()': each round is handed the number and a raw write whose bytes are new ones of its own.
-/
import Derived.Test.YtfaceimamipbpaaLook
import Derived.RangeFuncNested
import Derived.RangeFuncBound
import Derived.RangeFuncCalls
import Derived.RangeFuncLeaves
import Derived.Shelf.Abstract
import Derived.OwnWalkIn
import Derived.TacticsInMore
import Derived.LoopNIn
import Derived.LoopIn
namespace Go.Proofs.Ytfaceimamipbpaa
open Go.RowKit Go.Shelf
set_option linter.unusedSimpArgs false
attribute [local go_sem] Oper.semAt_some

/-- The log, as All's closure has it in the box L. -/
structure LogAt (W : World) (L : Nat) (vl : Value) (G : Nat → Prop) (log : List Wr) (xs : List Value) : Prop where
  box : W.cell? ⟨L, 0, none⟩ = some vl
  row : W.ownsRow 0 50 3 vl log.length xs
  it : Items W G log xs
theorem LogAt.only {W W' : World} {L : Nat} {vl : Value} {G D : Nat → Prop} {log : List Wr} {xs : List Value} (h : LogAt W L vl G log xs) (k : Only D W W') (hL : ¬ D L) (hv : ∀ j, vl.ownBlock = some j → ¬ D j) (hG : Apart D G) : LogAt W' L vl G log xs :=
  ⟨k.cell h.box hL, k.row h.row hv, h.it.only k hG⟩
theorem LogAt.below {W W' : World} {L : Nat} {vl : Value} {G : Nat → Prop} {log : List Wr} {xs : List Value} (h : LogAt W L vl G log xs) (k : Below W.heap.size W W') : LogAt W' L vl G log xs :=
  h.only (Only.ofBelow k) (fun d => d.elim) (fun _ _ d => d.elim) (fun _ d => d.elim)

/-- What a round is handed: new bytes. -/
structure Handed (n : Nat) (W : World) (x : Wr) (ao : Option Addr) (c : Nat) : Prop where
  own : Own 5 W n (.slice ao x.data.length c) x.data
  nil : ao = none → c = 0

set_option maxRecDepth 100000 in
set_option maxHeartbeats 2000000 in
/-- All's closure, whatever the rounds do. -/
theorem all1_in (l L : Nat) (vl : Value) (G : Nat → Prop) (log : List Wr) (xs : List Value) (hlen : ∀ x ∈ log, x.data.length ≤ 140737488355328) (hll : log.length ≤ 1000000) (J : Nat → World → Prop) (Jx : World → Prop)
    (hY : ∀ k x ao c W0 W, log[k]? = some x → J k W0 → Below W0.heap.size W0 W → LogAt W L vl G log xs → Handed W0.heap.size W x ao c → YieldAt Fence.wide 4 Try.prog l #[.int .i64 (k : Int), .agg #[.int .i64 x.kind, .int .i64 x.area, .slice ao x.data.length c]] W fun e W' =>
      (e = .returned (.bool true) ∧ J (k + 1) W' ∧ LogAt W' L vl G log xs) ∨ (e = .returned (.bool false) ∧ Jx W'))
    (W : World) (hL : LogAt W L vl G log xs) (h0 : J 0 W) :
    CallsIn Fence.wide 5 Try.prog 38 #[.func (.yield l) #[] #[], .pointer (some ⟨L, 0, none⟩)] W fun e W' => (∃ v, e = .returned v) ∧ (J log.length W' ∨ Jx W') := by
  have hn : 1 ≤ 5 := by omega
  obtain ⟨lo, lc, rfl, hlo, _⟩ := row_form hL.row
  have hbox := hL.box
  refine callsIn_of_wp Try.func38 rfl trivial ?_ rfl
  simp only [Try.ntmps38, List.size_toArray, List.length_cons, List.length_nil, Nat.reduceAdd, Nat.reduceSub, Array.replicate_succ, Array.replicate_zero, List.push_toArray, List.append_toArray, List.nil_append, List.cons_append]
  gi_wp2
  gi_loopw [7] (fun i wr => ∃ k : Nat, k ≤ log.length ∧ i = .int .i64 k ∧ J k wr ∧ LogAt wr L (.slice lo log.length lc) G log xs) (fun i _ => log.length - (intOf i).toNat)
  case atStart => exact ⟨0, Nat.zero_le _, rfl, h0, hL⟩
  case round =>
    obtain ⟨k, hk, rfl, hJs, hLs⟩ := hrel
    by_cases hlt : k < log.length
    · obtain ⟨x, hx⟩ : ∃ x, log[k]? = some x := ⟨_, List.getElem?_eq_getElem hlt⟩
      obtain ⟨ao, c, i1, i2, i3, hG⟩ := hLs.it.at hx
      cases lo with
      | none =>
        exfalso
        rcases hLs.row.2 with ⟨_, q⟩ | ⟨_, _, _, q, _⟩
        · omega
        · simp at q
      | some a =>
        obtain ⟨g, rfl⟩ := hlo _ rfl
        have j1 := World.ownsRow.cells hLs.row (g := g) rfl _ _ i1
        have j2 := World.ownsRow.cells hLs.row (g := g) rfl _ _ i2
        have j3 := World.ownsRow.cells hLs.row (g := g) rfl _ _ i3
        rw [add_lit, Nat.zero_add, Nat.mul_comm] at j1 j2 j3
        have hb0 : Below wr.heap.size wr (wr.alloc (.cells #[.int .i64 x.kind, .int .i64 x.area, .slice ao x.data.length c] 50)) := (Below.refl _ wr).alloc (Nat.le_refl _) _
        have hxl := hlen x (List.mem_of_getElem? hx)
        have hr := hG.rd.below hb0
        have hn := hG.nil
        have HJ := hide hJs
        have HL := hide hLs
        have HX := hide hx
        clear hJs hLs hx hG i1 i2 i3 hL
        gi_wp2_with (refine ⟨trivial, ?_⟩; gi_at_call 39; refine (callsIn_wide.2 (told_any x.kind x.area ao c x.data _ hr hn hxl)).mono ?_; rintro e w2 ⟨ao2, c2, rfl, ho2, hn2, hb2⟩; have hb3 := hb0.trans (hb2.mono (by simp)); obtain ⟨fn, tmps, assign, body, hy, hR⟩ := hY k x ao2 c2 wr w2 HX.out HJ.out hb3 (HL.out.below hb3) ⟨ho2.lift (by simp), hn2⟩; unfold wrv)
        refine hR.mono ?_
        rintro e W3 (⟨rfl, hJ3, hL3⟩ | ⟨rfl, hJx3⟩)
        · gi_wp2
          go_roundw
          case rel => exact ⟨k + 1, by omega, by simp, hJ3, hL3⟩
          case measure => simp [intOf]; omega
        · gi_wp2
          refine bodyPost_ret (results_none rfl _ _ _) rfl ?_
          exact ⟨⟨_, rfl⟩, .inr hJx3⟩
    · obtain rfl : k = log.length := by omega
      gi_wp2
      go_end0
      exact ⟨⟨_, rfl⟩, .inl hJs⟩

/-- How a round of the statement may be left. -/
def rpost (D : Nat → Prop) (I : Nat → World → Prop) (Ix : Code → World → Prop) (W : World) (k : Nat) : Exit → Act → World → Prop
  | .normal, _, W' => Only D W W' ∧ I k W'
  | .ret, _, W' => Only D W W' ∧ Ix .ret W'
  | .exit id, _, W' => Only D W W' ∧ Ix (.exit id) W'
  | .goto t, _, W' => Only D W W' ∧ Ix (.goto t) W'
  | .panic _, _, _ => False
  | .outgrown, _, _ => False

theorem only_putObj (W : World) (l : Nat) (o : Obj) : Only (fun j => j = l) W (W.putObj l o) :=
  ⟨rfl, rfl, rfl, by simp, fun k _ hk => World.putObj_heap_other hk⟩

set_option maxHeartbeats 1000000 in
/-- 'for i, w := range d.All() { .. }': D holds the blocks that a round may turn; I is what holds between rounds, Ix where one has left by a jump. -/
theorem range_log {a : Act} {w : World} {Q : Exit → Act → World → Prop} {g : Operand} {ps : Array Tmp} {assign body : Code} (L : Nat) (vl : Value) (G : Nat → Prop) (log : List Wr) (xs : List Value)
    (hg : a.eval g = .func (.func 38) #[] #[.pointer (some ⟨L, 0, none⟩)]) (hps : ps.size = 2) (hL : LogAt w L vl G log xs) (hlen : ∀ x ∈ log, x.data.length ≤ 140737488355328) (hll : log.length ≤ 1000000)
    (D : Nat → Prop) (hDL : ¬ D L) (hD0 : ¬ D w.heap.size) (hD1 : ¬ D (w.heap.size + 1)) (hDv : ∀ j, vl.ownBlock = some j → ¬ D j) (hDG : Apart D G) (hGu : Under G w.heap.size)
    (I : Nat → World → Prop) (Ix : Code → World → Prop) (hI : ∀ k W W', I k W → Only (fun j => j = w.heap.size + 1) W W' → I k W') (hIx : ∀ c W W', Ix c W → Only (fun j => j = w.heap.size + 1) W W' → Ix c W') (h0 : I 0 w)
    (hround : ∀ k x ao c W0 W, log[k]? = some x → I k W0 → Below W0.heap.size W0 W → Handed W0.heap.size W x ao c → w.heap.size + 1 < W0.heap.size →
      assign.wpIn (Fence.wide.inRound (w.heap.size + 1)) 4 Try.prog (Exit.then (fun a1 W1 => Only D W W1 ∧ ∀ W2, Only (fun j => j = w.heap.size + 1) W1 W2 → body.wpIn (Fence.wide.inRound (w.heap.size + 1)) 4 Try.prog (rpost D I Ix W2 (k + 1)) a1 W2) (fun _ _ _ => False))
        { tmps := (ps.zip #[.int .i64 (k : Int), .agg #[.int .i64 x.kind, .int .i64 x.area, .slice ao x.data.length c]]).foldl (fun t (p, v) => t.setIfInBounds p v) a.tmps, defers := [] } W)
    (hdone : ∀ W, I log.length W → w.heap.size < W.heap.size → W.heap[w.heap.size]? = some (.deferred (some [])) → Q .normal { a with defers := { target := .collected w.heap.size, args := #[] } :: a.defers } W)
    (hstop : ∀ c W, Ix c W → w.heap.size < W.heap.size → W.heap[w.heap.size]? = some (.deferred (some [])) → c.wp Try.prog Q { a with defers := { target := .collected w.heap.size, args := #[] } :: a.defers } W) :
    (Code.rangeFunc g ps assign body).wp Try.prog Q a w := by
  refine (wpIn_wide (n := 6)).1 (wpIn_rangeFunc (fun fn _ => ?_))
  obtain ⟨rec, hrec⟩ : ∃ rec : LoopState → Option Code → Loop, rec = fun st pe => { state := st, pending := pe, fn := fn, tmps := a.tmps, params := ps, assign := assign, body := body, defers := w.heap.size } := ⟨_, rfl⟩
  obtain ⟨W1, hW1⟩ : ∃ W1, (w.alloc (.deferred (some []))).alloc (.loop (rec .ready none)) = W1 := ⟨_, rfl⟩
  obtain ⟨m0, m1⟩ := new2 w (.deferred (some [])) (.loop (rec .ready none))
  rw [hW1] at m0 m1
  have hb1 : Below w.heap.size w W1 := by rw [← hW1]; exact ((Below.refl _ w).alloc (Nat.le_refl _) _).alloc (by simp) _
  have hs1 : W1.heap.size = w.heap.size + 2 := by rw [← hW1]; simp
  have toOnly : ∀ {A B : World}, Below A.heap.size A B → Only (fun j => j = w.heap.size + 1) A B := fun h => (Only.ofBelow h).mono (fun _ _ d => d.elim)
  have hLlt : L < w.heap.size := World.block_lt_of_cell? w _ hL.box
  have toLog : ∀ {A B : World}, LogAt A L vl G log xs → Only (fun j => j = w.heap.size + 1) A B → LogAt B L vl G log xs := fun h k => h.only k (by omega) (fun j hj e => by have := (World.ownsRow.lt hL.row j hj).2; omega) (fun j e hG => by have := hGu j hG; omega)
  refine ⟨w.heap.size + 1, [{ target := .collected w.heap.size, args := #[] }], W1, { target := .fn (.func 38) #[.pointer (some ⟨L, 0, none⟩)], args := #[.func (.yield (w.heap.size + 1)) #[] #[]] }, W1, 38,
    #[.func (.yield (w.heap.size + 1)) #[] #[]] ++ #[.pointer (some ⟨L, 0, none⟩)], W1, ?_, ?_, fun _ _ => trivial, ?_, fun _ => by omega, ?_⟩
  · rw [← hW1, hrec]; exact run_enterLoop_outer _ _ _ _ _
  · simp only [resolve, hg]
    simp [go_sem]
  · have eg := enters_of (P := Try.prog) (f := 38) Try.func38 (by kernel_rfl) rfl
    simp [invoke, go_sem, eg]
  · have hlog1 : LogAt W1 L vl G log xs := hL.below hb1
    refine (all1_in (w.heap.size + 1) L vl G log xs hlen hll
      (fun k W => I k W ∧ W.heap[w.heap.size + 1]? = some (.loop (rec .ready none)) ∧ W.heap[w.heap.size]? = some (.deferred (some [])))
      (fun W => ∃ c, Ix c W ∧ W.heap[w.heap.size + 1]? = some (.loop (rec .done (some c))) ∧ W.heap[w.heap.size]? = some (.deferred (some [])))
      ?_ W1 hlog1 ⟨hI 0 w W1 h0 (toOnly hb1), m1, m0⟩).mono ?_
    · rintro k x ao c W0 W hx ⟨hi, hl0, hk0⟩ hbW hLW hH
      have hlt0 : w.heap.size + 1 < W0.heap.size := (Array.getElem?_eq_some_iff.1 hl0).1
      have hl : W.heap[w.heap.size + 1]? = some (.loop (rec .ready none)) := (hbW.block _ hlt0).trans hl0
      have hk : W.heap[w.heap.size]? = some (.deferred (some [])) := (hbW.block _ (by omega)).trans hk0
      have hy := run_yield (P := Try.prog) (args := #[.int .i64 (k : Int), .agg #[.int .i64 x.kind, .int .i64 x.area, .slice ao x.data.length c]]) hl (by rw [hrec]; exact hps.symm)
      rw [hrec] at hy
      refine ⟨fn, _, assign, body, hy, roundIn_of_wpIn trivial (wpIn_mono (hround k x ao c W0 W hx hi hbW hH hlt0) ?_)⟩
      rintro e a1 Wa hp
      cases e with
      | normal =>
        obtain ⟨hoa, hbody⟩ := hp
        have hla : Wa.heap[w.heap.size + 1]? = some (.loop (rec .ready none)) := (hoa.block _ (Array.getElem?_eq_some_iff.1 hl).1 hD1).trans hl
        have hka : Wa.heap[w.heap.size]? = some (.deferred (some [])) := (hoa.block _ (Array.getElem?_eq_some_iff.1 hk).1 hD0).trans hk
        have hLa := hLW.only hoa hDL hDv hDG
        refine ⟨_, run_beginRound hla (by rw [hrec]), ?_⟩
        have hlta := (Array.getElem?_eq_some_iff.1 hla).1
        have hl2 : (Wa.putObj (w.heap.size + 1) (.loop { rec .ready none with state := .busy })).heap[w.heap.size + 1]? = some (.loop { rec .ready none with state := .busy }) := World.putObj_heap_same hlta
        have hk2 : (Wa.putObj (w.heap.size + 1) (.loop { rec .ready none with state := .busy })).heap[w.heap.size]? = some (.deferred (some [])) := (World.putObj_heap_other (by omega)).trans hka
        have hL2 : LogAt (Wa.putObj (w.heap.size + 1) (.loop { rec .ready none with state := .busy })) L vl G log xs := toLog hLa (only_putObj Wa _ _)
        refine wpIn_mono (hbody _ (only_putObj Wa _ _)) ?_
        have fin : ∀ (jump : Option Code) (W3 : World), Only D (Wa.putObj (w.heap.size + 1) (.loop { rec .ready none with state := .busy })) W3 → ∃ W4, (Instr.endRound (w.heap.size + 1) jump).run Try.prog W3 = .ok (.bool jump.isNone) W4 ∧ Only (fun j => j = w.heap.size + 1) W3 W4 ∧
            W4.heap[w.heap.size + 1]? = some (.loop (rec (if jump.isNone then .ready else .done) jump)) ∧ W4.heap[w.heap.size]? = some (.deferred (some [])) ∧ LogAt W4 L vl G log xs := fun jump W3 ho3 => by
          have hl3 := (ho3.block _ (by simpa using hlta) hD1).trans hl2
          have hk3 := (ho3.block _ (by simp; omega) hD0).trans hk2
          have := run_endRound (P := Try.prog) jump hl3
          refine ⟨_, this, only_putObj W3 _ _, ?_, (World.putObj_heap_other (by omega)).trans hk3, toLog (hL2.only ho3 hDL hDv hDG) (only_putObj W3 _ _)⟩
          rw [World.putObj_heap_same (Array.getElem?_eq_some_iff.1 hl3).1, hrec]
        rintro e a3 W3 hp3
        cases e with
        | normal =>
          obtain ⟨ho3, hi3⟩ := hp3
          obtain ⟨W4, hr, ho4, hl4, hk4, hL4⟩ := fin none W3 ho3
          exact ⟨_, _, hr, .inl ⟨rfl, ⟨hI _ _ _ hi3 ho4, hl4, hk4⟩, hL4⟩⟩
        | ret =>
          obtain ⟨ho3, hi3⟩ := hp3
          obtain ⟨W4, hr, ho4, hl4, hk4, _⟩ := fin (some .ret) W3 ho3
          exact ⟨_, _, hr, .inr ⟨rfl, .ret, hIx _ _ _ hi3 ho4, hl4, hk4⟩⟩
        | exit id =>
          obtain ⟨ho3, hi3⟩ := hp3
          obtain ⟨W4, hr, ho4, hl4, hk4, _⟩ := fin (some (.exit id)) W3 ho3
          exact ⟨_, _, hr, .inr ⟨rfl, .exit id, hIx _ _ _ hi3 ho4, hl4, hk4⟩⟩
        | goto t =>
          obtain ⟨ho3, hi3⟩ := hp3
          obtain ⟨W4, hr, ho4, hl4, hk4, _⟩ := fin (some (.goto t)) W3 ho3
          exact ⟨_, _, hr, .inr ⟨rfl, .goto t, hIx _ _ _ hi3 ho4, hl4, hk4⟩⟩
        | panic ch => exact hp3.elim
        | outgrown => exact hp3.elim
      | ret => exact hp.elim
      | exit id => exact hp.elim
      | goto t => exact hp.elim
      | panic ch => exact hp.elim
      | outgrown => exact hp.elim
    · rintro e W2 ⟨⟨v, rfl⟩, (⟨hi, hl, hk⟩ | ⟨c, hi, hl, hk⟩)⟩
      · have hlt := (Array.getElem?_eq_some_iff.1 hk).1
        refine ⟨none, _, by have := run_endLoop (P := Try.prog) hl (by rw [hrec]; simp); rw [hrec] at this; exact this, hdone _ (hI _ _ _ hi (only_putObj _ _ _)) (by simpa using hlt) ((World.putObj_heap_other (by omega)).trans hk)⟩
      · have hlt := (Array.getElem?_eq_some_iff.1 hk).1
        refine ⟨some c, _, by have := run_endLoop (P := Try.prog) hl (by rw [hrec]; simp); rw [hrec] at this; exact this, wpIn_wide.2 (hstop c _ (hIx _ _ _ hi (only_putObj _ _ _)) (by simpa using hlt) ((World.putObj_heap_other (by omega)).trans hk))⟩
end Go.Proofs.Ytfaceimamipbpaa
