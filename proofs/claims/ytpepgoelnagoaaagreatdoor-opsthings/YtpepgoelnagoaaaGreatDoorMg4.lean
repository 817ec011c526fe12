/-
  KEYS GONE OVER: Clone, the program's Fronts, its closure, and a law for the statement 'for ahead, key := range Fronts(l)'.
  A LAW for the statement 'for ahead, key := range Fronts(l) { .. }'.
  PATHS: plainly (pathB), and what the program's Path answers.
  A strings.Builder THAT A CALL HAS MADE: copyCheck, WriteByte, WriteString over this dump (their bodies are not those of the shelf's names), with what they leave as it was; String by the shelf's contract.
-/
import Derived.Test.YtpepgoelnagoaaaGreatDoorMg3
import Derived.Lib.Builder
import Derived.Lib.AppendStr
import Derived.Laws.Externs
namespace Go.Proofs.YtpepgoelnagoaaaGreatDoor
open Go.RowKit Go.Shelf
set_option linter.unusedSimpArgs false
attribute [local go_sem] Oper.semAt_some

theorem clone_any {w : World} {ao : Option Addr} {c : Nat} {l : List ByteArray} (h : Rs w ao l) (hl : l.length ≤ 1000000) :
    Calls Tryz.prog 81 #[.slice ao l.length c] w fun e w' => ∃ v, e = .returned v ∧ Os w' w.heap.size v l ∧ Below w.heap.size w w' := by
  cases ao with
  | none =>
    have := h.1 rfl
    subst this
    refine (Tryz.slices_Clone_string_nil _ _ w).mono ?_
    rintro e w' ⟨rfl, rfl⟩
    exact ⟨_, rfl, Os.nil _ _, Below.refl _ _⟩
  | some a =>
    cases l with
    | nil =>
      refine (Tryz.slices_Clone_string_zero a c w).mono ?_
      rintro e w' ⟨v, rfl, h1, _, h2⟩
      exact ⟨v, rfl, h1, h2⟩
    | cons x t =>
      obtain ⟨ab, off, ha, _⟩ := h.at (k := 0) (s := x) rfl
      cases ha
      refine (Tryz.slices_Clone_string ab off (x :: t).length c (x :: t) w (Nat.le_refl _) (by omega) (fun j hj => ?_)).mono ?_
      · obtain ⟨ab', off', ha', hc'⟩ := h.at (List.getElem?_eq_getElem hj)
        cases ha'
        rw [hc']
        simp [List.getD, List.getElem?_eq_getElem hj]
      · rintro e w' ⟨v, rfl, h1, _, h2⟩
        rw [List.take_length] at h1
        exact ⟨v, rfl, h1, h2⟩

/-- The keys, as the closure has them in the box L. -/
structure KAt (W : World) (L : Nat) (ao : Option Addr) (c : Nat) (l : List ByteArray) : Prop where
  box : W.cell? ⟨L, 0, none⟩ = some (.slice ao l.length c)
  rs : Rs W ao l
  cap : l.length ≤ c
  nil : ao = none → c = 0
theorem KAt.only {W W' : World} {L : Nat} {ao : Option Addr} {c : Nat} {l : List ByteArray} {D : Nat → Prop} (h : KAt W L ao c l) (k : Only D W W') (hL : ¬ D L) (hv : ∀ a, ao = some a → ¬ D a.block) : KAt W' L ao c l :=
  ⟨k.cell h.box hL, h.rs.only k hv, h.cap, h.nil⟩
theorem KAt.below {W W' : World} {L : Nat} {ao : Option Addr} {c : Nat} {l : List ByteArray} (h : KAt W L ao c l) (k : Below W.heap.size W W') : KAt W' L ao c l :=
  h.only (Only.ofBelow k) (fun d => d.elim) (fun _ _ d => d.elim)

theorem fronts_any {w : World} {ao : Option Addr} {c : Nat} {l : List ByteArray} (h : Rs w ao l) (hl : l.length ≤ 1000000) :
    Calls Tryz.prog 128 #[.slice ao l.length c] w fun e w' => ∃ L a' c', e = .returned (.func (.func 167) #[] #[.pointer (some ⟨L, 0, none⟩)]) ∧ KAt w' L a' c' l ∧ w.heap.size ≤ L ∧ (∀ a, a' = some a → w.heap.size ≤ a.block ∧ a.block < w'.heap.size) ∧ Below w.heap.size w w' := by
  have hc := clone_any (c := c) h hl
  go_enter Tryz.func128, Tryz.ntmps128
  go_wp2_with (go_at_call 81; refine hc.mono ?_; rintro e w1 ⟨v, rfl, hO, b1⟩; obtain ⟨a', c', rfl, hr, hb, hn, hcp⟩ := hO.shape)
  go_ret
  have hb2 : Below w1.heap.size w1 (w1.alloc (.cells #[.slice a' l.length c'] 30)) := (Below.refl _ w1).alloc (Nat.le_refl _) _
  refine ⟨w1.heap.size, a', c', rfl, ⟨?_, hr.below hb2, hcp, hn⟩, b1.size, fun a ha => ⟨(hb a ha).1, ?_⟩, b1.trans (hb2.mono b1.size)⟩
  · rw [cell_of_row _ _ 0 _ 30 (0, 0) (heap_alloc_new w1 _)]; rfl
  · have := (hb a ha).2; simp; omega

/-- What a round may turn: blocks of D that were there when it began, and the keys that it was handed. -/
def Turns (D : Nat → Prop) (m : Nat) (v : Value) : Nat → Prop := fun j => (D j ∧ j < m) ∨ v.ownBlock = some j

theorem sliceS_hi {ao : Option Addr} {n c j : Nat} (hj : j ≤ c) (hn : ao = none → c = 0) (w : World) : (Instr.slice 30 (.slice ao n c) none (some (.int .i64 j)) none).run Tryz.prog w = .ok (.slice ao j c) w := by
  have h2 : (0 : Int) ≤ (j : Int) ∧ (j : Int) ≤ (c : Int) := by omega
  by_cases hc : c = 0
  · subst hc
    simp [Instr.slice, Instr.sliceBounds, Instr.sliceBound, asIntOf, run_underlying Tryz.underlying30, go_sem, hj]
  · cases ao with
    | none => exact (hc (hn rfl)).elim
    | some a => simp [Instr.slice, Instr.sliceBounds, Instr.sliceBound, asIntOf, run_underlying Tryz.underlying30, go_sem, hj, hc, Addr.add]

set_option maxRecDepth 100000 in
set_option maxHeartbeats 600000 in
/-- The closure, whatever the rounds do. -/
theorem fronts1_in (l L : Nat) (ao : Option Addr) (c : Nat) (ks : List ByteArray) (hlen : ks.length ≤ 1000000) (D : Nat → Prop) (J : Nat → World → Prop) (Jx : World → Prop)
    (hDL : ¬ D L) (hDa : ∀ a, ao = some a → ¬ D a.block)
    (hY : ∀ k key v W0 W, ks[k]? = some key → J k W0 → Below W0.heap.size W0 W → Os W W0.heap.size v (ks.take k) → YieldAt Fence.wide 4 Tryz.prog l #[v, .string key] W fun e W' =>
      Only (Turns D W0.heap.size v) W W' ∧ ((e = .returned (.bool true) ∧ J (k + 1) W') ∨ (e = .returned (.bool false) ∧ Jx W')))
    (W : World) (hL : KAt W L ao c ks) (h0 : J 0 W) :
    CallsIn Fence.wide 5 Tryz.prog 167 #[.func (.yield l) #[] #[], .pointer (some ⟨L, 0, none⟩)] W fun e W' => (∃ v, e = .returned v) ∧ (J ks.length W' ∨ Jx W') := by
  have hn : 1 ≤ 5 := by omega
  have hbx := hL.box
  obtain ⟨N, hN⟩ : ∃ N, N = ks.length := ⟨_, rfl⟩
  rw [← hN] at hbx hlen ⊢
  have HN := hide hN
  clear hN
  refine callsIn_of_wp Tryz.func167 rfl trivial ?_ rfl
  simp only [Tryz.ntmps167, List.size_toArray, List.length_cons, List.length_nil, Nat.reduceAdd, Nat.reduceSub, Array.replicate_succ, Array.replicate_zero, List.push_toArray, List.append_toArray, List.nil_append, List.cons_append]
  gi_wp2
  gi_loopw [7] (fun i wr => ∃ k : Nat, k ≤ N ∧ i = .int .i64 k ∧ J k wr ∧ KAt wr L ao c ks) (fun i _ => N - (intOf i).toNat)
  case atStart => exact ⟨0, Nat.zero_le _, rfl, h0, hL⟩
  case round =>
    obtain ⟨k, hk, rfl, hJ, hK⟩ := hrel
    by_cases hlt : k < N
    · have d1 : decide (k < N) = true := by simpa using hlt
      have d1' : (k : Int) < (N : Int) := by omega
      obtain ⟨key, hkey⟩ : ∃ key, ks[k]? = some key := ⟨_, List.getElem?_eq_getElem (by rw [← HN.out]; exact hlt)⟩
      obtain ⟨ab, off, rfl, hck⟩ := hK.rs.at hkey
      have hbox := hK.box
      rw [← HN.out] at hbox
      have hcap := hK.cap
      have hsl := fun W' => sliceS_hi (ao := some ⟨ab, off, none⟩) (n := N) (c := c) (j := k) (by have := HN.out; omega) (by simp) W'
      have htl : (ks.take k).length = k := by rw [List.length_take]; have := HN.out; omega
      have hcl := clone_any (c := c) (hK.rs.take k) (by rw [htl]; omega)
      rw [htl] at hcl
      have HJ := hide (And.intro hJ (And.intro hK hkey))
      clear hJ hK hkey hL h0 htl
      gi_wp2_with (refine ⟨trivial, ?_⟩; gi_at_call 81; refine (callsIn_wide.2 hcl).mono ?_; rintro e w2 ⟨v, rfl, hO, b2⟩; obtain ⟨fn, tmps, assign, body, hy, hR⟩ := hY k key v wr w2 HJ.out.2.2 HJ.out.1 b2 hO)
      refine hR.mono ?_
      rintro e W5 ⟨hon, (⟨rfl, hJ5⟩ | ⟨rfl, hJx5⟩)⟩
      · have hnt : ∀ j, j < wr.heap.size → ¬ D j → ¬ Turns D wr.heap.size v j := fun j hj hd e => by
          rcases e with e | e
          · exact hd e.1
          · have := (World.ownsRow.lt hO j e).1; omega
        have hK5 := (HJ.out.2.1.below b2).only hon (hnt L (World.block_lt_of_cell? _ _ HJ.out.2.1.box) hDL) (fun a ha => by
          cases ha
          have := World.block_lt_of_cell? _ _ hck
          exact hnt _ this (hDa _ rfl))
        have HJ5 := hide (And.intro hJ5 hK5)
        clear hJ5 hK5 hR hcl
        gi_wp2
        go_roundw
        case rel => exact ⟨k + 1, by omega, by go_num, HJ5.out.1, HJ5.out.2⟩
        case measure => simp [intOf]; omega
      · gi_wp2
        refine bodyPost_ret (results_none rfl _ _ _) rfl ?_
        exact ⟨⟨_, rfl⟩, .inr hJx5⟩
    · obtain rfl : k = N := by omega
      have d1 : decide (k < k) = false := by simp
      have HJ := hide hJ
      clear hJ hL h0 hK
      gi_wp2
      go_end0
      exact ⟨⟨_, rfl⟩, .inl HJ.out⟩
end Go.Proofs.YtpepgoelnagoaaaGreatDoor
namespace Go.Proofs.YtpepgoelnagoaaaGreatDoor
open Go.RowKit Go.Shelf
set_option linter.unusedSimpArgs false
attribute [local go_sem] Oper.semAt_some

set_option maxHeartbeats 1000000 in
/-- 'for at, f := range all { .. }': D holds the old blocks that a round may turn; I is what holds between rounds, Ix where one has left by a jump. -/
theorem range_fr {a : Act} {w : World} {Q : Exit → Act → World → Prop} {g : Operand} {ps : Array Tmp} {assign body : Code} (L : Nat) (ao : Option Addr) (c : Nat) (ks : List ByteArray)
    (hg : a.eval g = .func (.func 167) #[] #[.pointer (some ⟨L, 0, none⟩)]) (hps : ps.size = 2) (hL : KAt w L ao c ks) (hlen : ks.length ≤ 1000000)
    (D : Nat → Prop) (hDL : ¬ D L) (hDa : ∀ a, ao = some a → ¬ D a.block) (hDs : ¬ D w.heap.size) (hDt : ¬ D (w.heap.size + 1)) (hau : ∀ a, ao = some a → a.block < w.heap.size)
    (I : Nat → World → Prop) (Ix : Code → World → Prop) (hI : ∀ k W W', I k W → Only (fun j => j = w.heap.size + 1) W W' → I k W') (hIx : ∀ c W W', Ix c W → Only (fun j => j = w.heap.size + 1) W W' → Ix c W') (h0 : I 0 w)
    (hround : ∀ k key v W0 W, ks[k]? = some key → I k W0 → Below W0.heap.size W0 W → Os W W0.heap.size v (ks.take k) → w.heap.size + 1 < W0.heap.size →
      assign.wpIn (Fence.wide.inRound (w.heap.size + 1)) 4 Tryz.prog (Exit.then (fun a1 W1 => Only (Turns D W0.heap.size v) W W1 ∧ ∀ W2, Only (fun j => j = w.heap.size + 1) W1 W2 → body.wpIn (Fence.wide.inRound (w.heap.size + 1)) 4 Tryz.prog (rpost (Turns D W0.heap.size v) I Ix W2 (k + 1)) a1 W2) (fun _ _ _ => False))
        { tmps := (ps.zip #[v, .string key]).foldl (fun t (p, v) => t.setIfInBounds p v) a.tmps, defers := [] } W)
    (hdone : ∀ W, I ks.length W → w.heap.size < W.heap.size → W.heap[w.heap.size]? = some (.deferred (some [])) → Q .normal { a with defers := { target := .collected w.heap.size, args := #[] } :: a.defers } W)
    (hstop : ∀ c W, Ix c W → w.heap.size < W.heap.size → W.heap[w.heap.size]? = some (.deferred (some [])) → c.wp Tryz.prog Q { a with defers := { target := .collected w.heap.size, args := #[] } :: a.defers } W) :
    (Code.rangeFunc g ps assign body).wp Tryz.prog Q a w := by
  refine (wpIn_wide (n := 6)).1 (wpIn_rangeFunc (fun fn _ => ?_))
  obtain ⟨rec, hrec⟩ : ∃ rec : LoopState → Option Code → Loop, rec = fun st pe => { state := st, pending := pe, fn := fn, tmps := a.tmps, params := ps, assign := assign, body := body, defers := w.heap.size } := ⟨_, rfl⟩
  obtain ⟨W1, hW1⟩ : ∃ W1, (w.alloc (.deferred (some []))).alloc (.loop (rec .ready none)) = W1 := ⟨_, rfl⟩
  obtain ⟨m0, m1⟩ := new2 w (.deferred (some [])) (.loop (rec .ready none))
  rw [hW1] at m0 m1
  have hb1 : Below w.heap.size w W1 := by rw [← hW1]; exact ((Below.refl _ w).alloc (Nat.le_refl _) _).alloc (by simp) _
  have hs1 : W1.heap.size = w.heap.size + 2 := by rw [← hW1]; simp
  have toOnly : ∀ {A B : World}, Below A.heap.size A B → Only (fun j => j = w.heap.size + 1) A B := fun h => (Only.ofBelow h).mono (fun _ _ d => d.elim)
  have hLlt : L < w.heap.size := World.block_lt_of_cell? w _ hL.box
  have toLog : ∀ {A B : World}, KAt A L ao c ks → Only (fun j => j = w.heap.size + 1) A B → KAt B L ao c ks := fun h k => h.only k (by omega) (fun a ha e => by have := hau a ha; omega)
  refine ⟨w.heap.size + 1, [{ target := .collected w.heap.size, args := #[] }], W1, { target := .fn (.func 167) #[.pointer (some ⟨L, 0, none⟩)], args := #[.func (.yield (w.heap.size + 1)) #[] #[]] }, W1, 167,
    #[.func (.yield (w.heap.size + 1)) #[] #[]] ++ #[.pointer (some ⟨L, 0, none⟩)], W1, ?_, ?_, fun _ _ => trivial, ?_, fun _ => by omega, ?_⟩
  · rw [← hW1, hrec]; exact run_enterLoop_outer _ _ _ _ _
  · simp only [resolve, hg]
    simp [go_sem]
  · have eg := enters_of (P := Tryz.prog) (f := 167) Tryz.func167 (by kernel_rfl) rfl
    simp [invoke, go_sem, eg]
  · have hlog1 : KAt W1 L ao c ks := hL.below hb1
    refine (fronts1_in (w.heap.size + 1) L ao c ks hlen (fun j => D j ∨ j = w.heap.size + 1)
      (fun k W => I k W ∧ W.heap[w.heap.size + 1]? = some (.loop (rec .ready none)) ∧ W.heap[w.heap.size]? = some (.deferred (some [])))
      (fun W => ∃ c, Ix c W ∧ W.heap[w.heap.size + 1]? = some (.loop (rec .done (some c))) ∧ W.heap[w.heap.size]? = some (.deferred (some [])))
      (fun e => e.elim hDL (fun e => by omega)) (fun a ha e => e.elim (hDa a ha) (fun e => by have := hau a ha; omega)) ?_ W1 hlog1 ⟨hI 0 w W1 h0 (toOnly hb1), m1, m0⟩).mono ?_
    · rintro k key v W0 W hx ⟨hi, hl0, hk0⟩ hbW hH
      have hlt0 : w.heap.size + 1 < W0.heap.size := (Array.getElem?_eq_some_iff.1 hl0).1
      have hD0 : ¬ Turns D W0.heap.size v w.heap.size := fun e => e.elim (fun e => hDs e.1) (fun e => by have := (World.ownsRow.lt hH _ e).1; omega)
      have hD1 : ¬ Turns D W0.heap.size v (w.heap.size + 1) := fun e => e.elim (fun e => hDt e.1) (fun e => by have := (World.ownsRow.lt hH _ e).1; omega)
      have hl : W.heap[w.heap.size + 1]? = some (.loop (rec .ready none)) := (hbW.block _ hlt0).trans hl0
      have hk : W.heap[w.heap.size]? = some (.deferred (some [])) := (hbW.block _ (by omega)).trans hk0
      have hy := run_yield (P := Tryz.prog) (args := #[v, .string key]) hl (by rw [hrec]; exact hps.symm)
      rw [hrec] at hy
      refine ⟨fn, _, assign, body, hy, roundIn_of_wpIn trivial (wpIn_mono (hround k key v W0 W hx hi hbW hH hlt0) ?_)⟩
      rintro e a1 Wa hp
      cases e with
      | normal =>
        obtain ⟨hoa, hbody⟩ := hp
        have hla : Wa.heap[w.heap.size + 1]? = some (.loop (rec .ready none)) := (hoa.block _ (Array.getElem?_eq_some_iff.1 hl).1 hD1).trans hl
        have hka : Wa.heap[w.heap.size]? = some (.deferred (some [])) := (hoa.block _ (Array.getElem?_eq_some_iff.1 hk).1 hD0).trans hk
        refine ⟨_, run_beginRound hla (by rw [hrec]), ?_⟩
        have hlta := (Array.getElem?_eq_some_iff.1 hla).1
        have hl2 : (Wa.putObj (w.heap.size + 1) (.loop { rec .ready none with state := .busy })).heap[w.heap.size + 1]? = some (.loop { rec .ready none with state := .busy }) := World.putObj_heap_same hlta
        have hk2 : (Wa.putObj (w.heap.size + 1) (.loop { rec .ready none with state := .busy })).heap[w.heap.size]? = some (.deferred (some [])) := (World.putObj_heap_other (by omega)).trans hka
        have hT : ∀ {A B : World}, Only (Turns D W0.heap.size v) A B → Only (Turns (fun j => D j ∨ j = w.heap.size + 1) W0.heap.size v) A B := fun h => h.mono (fun j _ e => e.elim (fun e => .inl ⟨.inl e.1, e.2⟩) .inr)
        have hT2 : ∀ {A B : World}, Only (fun j => j = w.heap.size + 1) A B → Only (Turns (fun j => D j ∨ j = w.heap.size + 1) W0.heap.size v) A B := fun h => h.mono (fun j _ e => .inl ⟨.inr e, by omega⟩)
        have hTw := (hT hoa).trans (hT2 (only_putObj Wa (w.heap.size + 1) (.loop { rec .ready none with state := .busy }))) (fun _ _ h => h)
        refine wpIn_mono (hbody _ (only_putObj Wa _ _)) ?_
        have fin : ∀ (jump : Option Code) (W3 : World), Only (Turns D W0.heap.size v) (Wa.putObj (w.heap.size + 1) (.loop { rec .ready none with state := .busy })) W3 → ∃ W4, (Instr.endRound (w.heap.size + 1) jump).run Tryz.prog W3 = .ok (.bool jump.isNone) W4 ∧ Only (fun j => j = w.heap.size + 1) W3 W4 ∧
            W4.heap[w.heap.size + 1]? = some (.loop (rec (if jump.isNone then .ready else .done) jump)) ∧ W4.heap[w.heap.size]? = some (.deferred (some [])) ∧ Only (Turns (fun j => D j ∨ j = w.heap.size + 1) W0.heap.size v) W W4 := fun jump W3 ho3 => by
          have hl3 := (ho3.block _ (by simpa using hlta) hD1).trans hl2
          have hk3 := (ho3.block _ (by simp; omega) hD0).trans hk2
          have := run_endRound (P := Tryz.prog) jump hl3
          refine ⟨_, this, only_putObj W3 _ _, ?_, (World.putObj_heap_other (by omega)).trans hk3, (hTw.trans (hT ho3) (fun _ _ h => h)).trans (hT2 (only_putObj W3 _ _)) (fun _ _ h => h)⟩
          rw [World.putObj_heap_same (Array.getElem?_eq_some_iff.1 hl3).1, hrec]
        rintro e a3 W3 hp3
        cases e with
        | normal =>
          obtain ⟨ho3, hi3⟩ := hp3
          obtain ⟨W4, hr, ho4, hl4, hk4, hL4⟩ := fin none W3 ho3
          exact ⟨_, _, hr, hL4, .inl ⟨rfl, hI _ _ _ hi3 ho4, hl4, hk4⟩⟩
        | ret =>
          obtain ⟨ho3, hi3⟩ := hp3
          obtain ⟨W4, hr, ho4, hl4, hk4, hL4⟩ := fin (some .ret) W3 ho3
          exact ⟨_, _, hr, hL4, .inr ⟨rfl, .ret, hIx _ _ _ hi3 ho4, hl4, hk4⟩⟩
        | exit id =>
          obtain ⟨ho3, hi3⟩ := hp3
          obtain ⟨W4, hr, ho4, hl4, hk4, hL4⟩ := fin (some (.exit id)) W3 ho3
          exact ⟨_, _, hr, hL4, .inr ⟨rfl, .exit id, hIx _ _ _ hi3 ho4, hl4, hk4⟩⟩
        | goto t =>
          obtain ⟨ho3, hi3⟩ := hp3
          obtain ⟨W4, hr, ho4, hl4, hk4, hL4⟩ := fin (some (.goto t)) W3 ho3
          exact ⟨_, _, hr, hL4, .inr ⟨rfl, .goto t, hIx _ _ _ hi3 ho4, hl4, hk4⟩⟩
        | panic ch => exact hp3.elim
        | outgrown => exact hp3.elim
      | ret => exact hp.elim
      | exit id => exact hp.elim
      | goto t => exact hp.elim
      | panic ch => exact hp.elim
      | outgrown => exact hp.elim
    · rintro e W2 ⟨⟨v, rfl⟩, (⟨hi, hl, hk⟩ | ⟨c, hi, hl, hk⟩)⟩
      · have hlt := (Array.getElem?_eq_some_iff.1 hk).1
        refine ⟨none, _, by have := run_endLoop (P := Tryz.prog) hl (by rw [hrec]; simp); rw [hrec] at this; exact this, hdone _ (hI _ _ _ hi (only_putObj _ _ _)) (by simpa using hlt) ((World.putObj_heap_other (by omega)).trans hk)⟩
      · have hlt := (Array.getElem?_eq_some_iff.1 hk).1
        refine ⟨some c, _, by have := run_endLoop (P := Tryz.prog) hl (by rw [hrec]; simp); rw [hrec] at this; exact this, wpIn_wide.2 (hstop c _ (hIx _ _ _ hi (only_putObj _ _ _)) (by simpa using hlt) ((World.putObj_heap_other (by omega)).trans hk))⟩

end Go.Proofs.YtpepgoelnagoaaaGreatDoor
namespace Go.Proofs.YtpepgoelnagoaaaGreatDoor
open Go.RowKit Go.Shelf
set_option linter.unusedSimpArgs false
attribute [local go_sem] Oper.semAt_some

def pathB (l : List ByteArray) : Bool := decide (l.length ≤ 6) && l.all (fun s => keyB s.data.toList)
/-- Behind k rounds. -/
def Good (ks : List ByteArray) (k : Nat) : Prop := k ≤ 6 ∧ ∀ j s, j < k → ks[j]? = some s → keyB s.data.toList = true
theorem path_yes {l : List ByteArray} (h : Good (l.take 7) (l.take 7).length) : pathB l = true := by
  have h6 := h.1
  rw [List.length_take] at h6
  have hl : l.length ≤ 6 := by omega
  have ht : l.take 7 = l := List.take_of_length_le (by omega)
  rw [ht] at h
  unfold pathB
  rw [Bool.and_eq_true, decide_eq_true_eq, List.all_eq_true]
  refine ⟨hl, fun s hs => ?_⟩
  obtain ⟨j, hj, rfl⟩ := List.getElem_of_mem hs
  exact h.2 j _ hj (List.getElem?_eq_getElem hj)
theorem path_no {l : List ByteArray} {k : Nat} {s : ByteArray} (hs : (l.take 7)[k]? = some s) (h : k = 6 ∨ keyB s.data.toList = false) : pathB l = false := by
  have hk := (List.getElem?_eq_some_iff.1 hs).1
  rw [List.length_take] at hk
  have hs' : l[k]? = some s := by rw [List.getElem?_take] at hs; split at hs; exact hs; cases hs
  cases hp : pathB l with
  | false => rfl
  | true =>
    unfold pathB at hp
    rw [Bool.and_eq_true, decide_eq_true_eq, List.all_eq_true] at hp
    rcases h with h | h
    · omega
    · have := hp.2 s (List.mem_of_getElem? hs')
      rw [this] at h; cases h
/-- The box of the answer. -/
def PaI (w : World) (l : List ByteArray) (x : Bool) (k : Nat) (W : World) : Prop := W.heap[w.heap.size]? = some (.cells #[.bool x] 4 (0, 0)) ∧ Below w.heap.size w W ∧ Good (l.take 7) k
theorem PaI.only {w W W' : World} {l : List ByteArray} {x : Bool} {k : Nat} {D : Nat → Prop} (h : PaI w l x k W) (ho : Only D W W') (hD : ∀ j, D j → w.heap.size + 1 ≤ j) : PaI w l x k W' :=
  ⟨(ho.block _ (Array.getElem?_eq_some_iff.1 h.1).1 (fun e => by have := hD _ e; omega)).trans h.1, Below.only h.2.1 ho h.2.1.size (fun j e => by have := hD j e; omega), h.2.2⟩

set_option maxHeartbeats 1000000 in
set_option maxRecDepth 100000 in
theorem path_any {w : World} {ao : Option Addr} {c : Nat} {l : List ByteArray} (h : Rs w ao l) (hcap : l.length ≤ c) (hn : ao = none → c = 0) (hT : Tabs w) (hlen : l.length ≤ 140737488355328) :
    Calls Tryz.prog 90 #[.slice ao l.length c] w fun e w' => e = .returned (.bool (pathB l)) ∧ Below w.heap.size w w' := by
  obtain ⟨N, hN⟩ : ∃ N, N = l.length := ⟨_, rfl⟩
  obtain ⟨M, hM⟩ : ∃ M, M = (l.take 7).length := ⟨_, rfl⟩
  have hMN : M = min N 7 := by rw [hM, List.length_take, hN]; omega
  have hsl := fun W' => sliceS_hi (ao := ao) (n := N) (c := c) (j := M) (by omega) hn W'
  have hbx : Below w.heap.size w (w.alloc (.cells #[.bool false] 4)) := (Below.refl _ w).alloc (Nat.le_refl _) _
  have hfr := fronts_any (c := c) ((h.take 7).below hbx) (by rw [← hM]; omega)
  rw [← hM] at hfr
  rw [← hN]
  have hmin : (min (N : Int) 7) = (M : Int) := by rw [hMN]; omega
  have hI0 : PaI w l false 0 (w.alloc (.cells #[.bool false] 4)) := ⟨heap_alloc_new w _, hbx, ⟨by omega, fun j s hj => by omega⟩⟩
  have hs0 : (w.alloc (.cells #[.bool false] 4)).heap.size = w.heap.size + 1 := by simp
  have HH := hide (And.intro hN (And.intro hM hMN))
  clear hN hM hMN
  refine calls_marks Tryz.func90 rfl ?_
  simp only [Tryz.ntmps90, List.size_toArray, List.length_cons, List.length_nil, Nat.reduceAdd, Nat.reduceSub, Array.replicate_succ, Array.replicate_zero, List.push_toArray, List.append_toArray, List.nil_append, List.cons_append]
  go_wp2_with (go_at_call 128; refine hfr.mono ?_; rintro e w1 ⟨L, a1, c1, rfl, hK, hL1, hA1, b1⟩)
  have hs1 := b1.size
  rw [hs0] at hs1
  have hI1 : PaI w l false 0 w1 := hI0.only (Only.ofBelow b1) (fun _ d => d.elim)
  rw [hs0] at hL1 hA1
  have hLlt : L < w1.heap.size := World.block_lt_of_cell? _ _ hK.box
  have hret : ∀ (x : Bool) (W : World) (fn : Func) (tmps : Array Value), fn.results = #[.cell 2 4] → tmps.getD 2 undef = .pointer (some ⟨w.heap.size, 0, none⟩) → W.heap[w1.heap.size]? = some (.deferred (some [])) → W.heap[w.heap.size]? = some (.cells #[.bool x] 4 (0, 0)) → Below w.heap.size w W → pathB l = x →
      LeavesInM Fence.wide 6 Tryz.prog fn tmps (fun e w' => e = .returned (.bool (pathB l)) ∧ Below w.heap.size w w') ({ target := .collected w1.heap.size, args := #[] } :: []) .returning W := fun x W fn tmps hres hp hKk hTt hbl hx => by
    have ho := only_putObj W w1.heap.size (.deferred none)
    exact leave_mark hKk (leave_cell w.heap.size (x := x) hres hp (ho.cell (by rw [cell_of_row _ _ 0 _ 4 (0, 0) hTt]; rfl) (by simp only; omega)) ⟨by rw [hx], Below.only hbl ho hbl.size (by intro j e; omega)⟩)
  have HHK := hide (And.intro h (And.intro hT hI1))
  clear h hT hI0 hbx hfr hsl b1
  refine range_fr (Q := _) L a1 c1 (l.take 7) rfl rfl hK (by rw [List.length_take]; omega) (fun j => j = w.heap.size) (by omega) (fun a ha => by have := (hA1 a ha).1; omega) (by omega) (by omega) (fun a ha => (hA1 a ha).2)
    (PaI w l false) (fun cd W => cd = .ret ∧ W.heap[w.heap.size]? = some (.cells #[.bool false] 4 (0, 0)) ∧ Below w.heap.size w W ∧ pathB l = false)
    (fun k W W' hi ho => hi.only ho (by intro j e; omega)) (fun cd W W' hi ho => ⟨hi.1, (ho.block _ (Array.getElem?_eq_some_iff.1 hi.2.1).1 (by omega)).trans hi.2.1, Below.only hi.2.2.1 ho hi.2.2.1.size (by intro j e; omega), hi.2.2.2⟩) HHK.out.2.2 ?hround ?hdone ?hstop
  case hdone =>
    intro W hi hls hKk
    obtain ⟨i1, i2, i3⟩ := hi
    have p1 : W.cell? ⟨w.heap.size, 0, none⟩ = some (.bool false) := by rw [cell_of_row _ _ 0 _ 4 (0, 0) i1]; rfl
    have z1 : W.frozen? ⟨w.heap.size, 0, none⟩ = false := frozen_of_row _ _ 0 _ 4 i1
    have HX := hide (And.intro hKk (And.intro i1 (And.intro i2 (path_yes i3))))
    clear hKk i1 i2 i3 hK
    go_wp2
    obtain ⟨hKk, i1, i2, hy⟩ := HX.out
    have ho := Only.ofGrown (grown_setCell W ⟨w.heap.size, 0, none⟩ (.bool true))
    refine hret true _ Tryz.f90 _ rfl rfl ((ho.block _ (Array.getElem?_eq_some_iff.1 hKk).1 (fun e => by have e' : w.heap.size = w1.heap.size := (by injection e); omega)).trans hKk) ?_ (Below.only i2 ho i2.size (fun j e => by have e' : w.heap.size = j := (by injection e); omega)) hy
    rw [heap_setCell_same _ _ _ _ 4 _ i1]; rfl
  case hstop =>
    rintro cd W ⟨rfl, hTt, hbl, hno⟩ hls hKk
    have HX := hide (And.intro hKk (And.intro hTt (And.intro hbl hno)))
    clear hKk hTt hbl hno hK
    go_wp2
    exact hret false _ Tryz.f90 _ rfl rfl HX.out.1 HX.out.2.1 HX.out.2.2.1 HX.out.2.2.2
  case hround =>
    intro k key v W0 W hx hi hbW0 hO hls
    have hkl := (List.getElem?_eq_some_iff.1 hx).1
    obtain ⟨av, cv, rfl, -, -, -, -⟩ := hO.shape
    have htk : ((l.take 7).take k).length = k := by rw [List.length_take]; omega
    rw [htk] at hO ⊢
    gi_wp2
    refine ⟨Only.refl _ W, fun W2 ho2 => ?_⟩
    have hi2 : PaI w l false k W2 := (hi.only (Only.ofBelow hbW0) (fun _ d => d.elim)).only ho2 (by intro j e; omega)
    have hsz2 : w.heap.size < W0.heap.size := by omega
    have p1 : W2.cell? ⟨w.heap.size, 0, none⟩ = some (.bool false) := by rw [cell_of_row _ _ 0 _ 4 (0, 0) hi2.1]; rfl
    have z1 : W2.frozen? ⟨w.heap.size, 0, none⟩ = false := frozen_of_row _ _ 0 _ 4 hi2.1
    have hky := key_any key W2 (Tabs.below HHK.out.2.1 hi2.2.1)
    have hstop : ∀ W3 : World, Below W2.heap.size W2 W3 → pathB l = false → Only (Turns (fun j => j = w.heap.size) W0.heap.size (.slice av k cv)) W2 (W3.setCell ⟨w.heap.size, 0, none⟩ (.bool false)) ∧ (W3.setCell ⟨w.heap.size, 0, none⟩ (.bool false)).heap[w.heap.size]? = some (.cells #[.bool false] 4 (0, 0)) ∧ Below w.heap.size w (W3.setCell ⟨w.heap.size, 0, none⟩ (.bool false)) := fun W3 b3 _ => by
      have i3 := hi2.only (Only.ofBelow b3) (fun _ d => d.elim)
      refine ⟨(((Only.ofBelow b3).mono (fun _ _ d => d.elim)).setCell _ _ (fun _ => .inl ⟨rfl, hsz2⟩)), ?_, i3.2.1.setCell (p := ⟨w.heap.size, 0, none⟩) (Nat.le_refl _) _⟩
      rw [heap_setCell_same _ _ _ _ 4 _ i3.1]; rfl
    have HS := hide hstop
    have HI2 := hide hi2
    clear hi hi2 hO hbW0 ho2 hstop hK
    by_cases h6 : k = 6
    · have h6b : ((k : Int) == 6) = true := by simp [h6]
      have hno := path_no hx (.inl h6)
      have HN := hide hno
      clear hno h6 hky hx
      gi_wp2_with (refine ⟨trivial, ?_⟩)
      obtain ⟨q1, q2, q3⟩ := HS.out W2 (Below.refl _ _) HN.out
      exact ⟨q1, rfl, q2, q3, HN.out⟩
    · have h6b : ((k : Int) == 6) = false := by simp; omega
      cases hkb : keyB key.data.toList with
      | false =>
        rw [hkb] at hky
        have hno := path_no hx (.inr hkb)
        have HN := hide hno
        clear hno h6 hx hkb
        gi_wp2_with (refine ⟨trivial, ?_⟩; gi_at_call 91; refine (callsIn_wide.2 hky).mono ?_; rintro e W3 ⟨rfl, b3⟩; have p3 := (b3.cell (World.block_lt_of_cell? _ _ p1)).trans p1; have z3 : W3.frozen? ⟨w.heap.size, 0, none⟩ = false := frozen_of_row _ _ 0 _ 4 ((b3.block _ (Array.getElem?_eq_some_iff.1 HI2.out.1).1).trans HI2.out.1))
        obtain ⟨q1, q2, q3⟩ := HS.out W3 b3 HN.out
        exact ⟨q1, rfl, q2, q3, HN.out⟩
      | true =>
        rw [hkb] at hky
        have hgd : Good (l.take 7) (k + 1) := by
          have hg := HI2.out.2.2
          refine ⟨by have := hg.1; omega, fun j s hj hs => ?_⟩
          by_cases hjk : j = k
          · subst hjk
            rw [hx] at hs
            cases hs
            exact hkb
          · exact hg.2 j s (by omega) hs
        have HG := hide hgd
        clear hgd h6 hx hkb
        gi_wp2_with (refine ⟨trivial, ?_⟩; gi_at_call 91; refine (callsIn_wide.2 hky).mono ?_; rintro e W3 ⟨rfl, b3⟩)
        refine ⟨(Only.ofBelow b3).mono (fun _ _ d => d.elim), ?_⟩
        have i3 := HI2.out.only (Only.ofBelow b3) (fun _ d => d.elim)
        exact ⟨i3.1, i3.2.1, HG.out⟩
end Go.Proofs.YtpepgoelnagoaaaGreatDoor
namespace Go.Proofs.YtpepgoelnagoaaaGreatDoor
open Go.RowKit Go.Shelf
set_option linter.unusedSimpArgs false

theorem info61 : (Tryz.prog.info? 179).map (·.size) = some 2 := by kernel_rfl
theorem lies61 : liesAt Tryz.prog Tryz.prog.depth 179 (2 / Tryz.prog.cellsOf 179) 0 179 1 = true := by kernel_rfl

/-- The builder in block b, its buffer v (from B on), its bytes l. -/
def Bd (w : World) (B b : Nat) (v : Value) (l : List UInt8) : Prop :=
  (∃ p, (p = .pointer none ∨ p = .pointer (some ⟨b, 0, none⟩)) ∧ w.heap[b]? = some (.cells #[p, v] 179 (0, 0))) ∧ w.ownsRow B 5 1 v l.length (Lib.byteCells l) ∧ v.ownBlock ≠ some b
theorem Bd.lt {w : World} {B b : Nat} {v : Value} {l : List UInt8} (h : Bd w B b v l) : b < w.heap.size := by
  obtain ⟨⟨p, _, hb⟩, _⟩ := h
  exact (Array.getElem?_eq_some_iff.1 hb).1
theorem Bd.blk {w : World} {B b : Nat} {v : Value} {l : List UInt8} (h : Bd w B b v l) : ∀ k, v.ownBlock = some k → B ≤ k ∧ k < w.heap.size := World.ownsRow.lt h.2.1
theorem Bd.only {w w' : World} {B b : Nat} {v : Value} {l : List UInt8} {D : Nat → Prop} (h : Bd w B b v l) (ho : Only D w w') (hb : ¬ D b) (hv : ∀ k, v.ownBlock = some k → ¬ D k) : Bd w' B b v l := by
  have hlt := h.lt
  obtain ⟨⟨p, hp, hc⟩, h3, h4⟩ := h
  exact ⟨⟨p, hp, (ho.block b hlt hb).trans hc⟩, ho.row h3 hv, h4⟩
theorem row_lift {w : World} {B B' e n : Nat} {v : Value} {xs : List Value} (h : w.ownsRow B e 1 v n xs) (hB : B' ≤ B) : w.ownsRow B' e 1 v n xs := by
  refine ⟨h.1, ?_⟩
  rcases h.2 with h2 | ⟨g, cap, cur, h1, h2, h3⟩
  · exact .inl h2
  · exact .inr ⟨g, cap, cur, h1, by omega, h3⟩
theorem Bd.is {w : World} {B B' b : Nat} {v : Value} {l : List UInt8} (h : Bd w B b v l) (hb : B' ≤ b) (hB : B' ≤ B) : Lib.IsBuilder 179 5 B' b (Lib.byteCells l) w := by
  obtain ⟨⟨p, hp, hc⟩, h3, h4⟩ := h
  rcases hp with rfl | rfl
  · exact .inl ⟨hb, v, hc, by rw [Lib.byteCells_length]; exact row_lift h3 hB, h4⟩
  · exact .inr ⟨hb, v, hc, by rw [Lib.byteCells_length]; exact row_lift h3 hB, h4⟩
theorem Bd.fresh (w : World) (B : Nat) : Bd (w.alloc (.cells #[.pointer none, .slice none 0 0] 179)) B w.heap.size (.slice none 0 0) [] :=
  ⟨⟨_, .inl rfl, heap_alloc_new w _⟩, World.ownsRow_nil _ _ _ _, by simp [Value.ownBlock]⟩
/-- What the builder holds, as a text. -/
theorem string_any {w : World} {B B' b : Nat} {v : Value} {l : List UInt8} (h : Bd w B b v l) (hb : B' ≤ b) (hB : B' ≤ B) (hBw : B' ≤ w.heap.size) : Calls Tryz.prog 137 #[.pointer (some ⟨b, 0, none⟩)] w fun e w' => e = .returned (.string ⟨l.toArray⟩) ∧ Below B' w w' :=
  Tryz.Builder_String_any B' b l w (h.is hb hB) hBw

set_option maxHeartbeats 1000000 in
set_option maxRecDepth 100000 in
theorem check_used (b : Nat) (w : World) (h0 : w.cell? ⟨b, 0, none⟩ = some (.pointer (some ⟨b, 0, none⟩))) :
    Calls Tryz.prog 169 #[.pointer (some ⟨b, 0, none⟩)] w fun e w' => e = .returned (.tuple #[]) ∧ w' = w := by
  obtain ⟨j, hj, _⟩ := Option.map_eq_some_iff.1 info61
  go_enter Tryz.func169, Tryz.ntmps169
  go_wp2
  rw [Lib.run_neq_ptr_same w _ Tryz.underlying177 hj]
  go_wp2
  go_end0
  exact ⟨rfl, rfl⟩

set_option maxHeartbeats 1000000 in
set_option maxRecDepth 100000 in
theorem check_fresh (b : Nat) (w : World) (h0 : w.cell? ⟨b, 0, none⟩ = some (.pointer none)) (hsh : w.shape? b = some (179, 2)) (hfz : w.frozen? ⟨b, 0, none⟩ = false) :
    Calls Tryz.prog 169 #[.pointer (some ⟨b, 0, none⟩)] w fun e w' => e = .returned (.tuple #[]) ∧ w' = w.setCell ⟨b, 0, none⟩ (.pointer (some ⟨b, 0, none⟩)) := by
  obtain ⟨j, hj, hjs⟩ := Option.map_eq_some_iff.1 info61
  go_enter Tryz.func169, Tryz.ntmps169
  go_wp2
  rw [Lib.run_to_unsafe w ⟨b, 0, none⟩ Tryz.underlying177 Tryz.underlying245 hj (by rw [hjs]; decide) hsh (Nat.zero_lt_succ 1)]
  simp only [Result.andThen]
  rw [Oper.upon_value]
  go_wp2
  rw [run_callFunc_extern Tryz.func190 (by kernel_rfl) (by kernel_rfl) (by kernel_rfl) (e := Extern.AbiNoEscape.same) (by kernel_rfl)]
  rw [Lib.run_noEscape]
  simp only [Result.andThen]
  rw [Oper.upon_value]
  go_wp2
  rw [Lib.run_from_unsafe w ⟨b, 0, none⟩ Tryz.underlying245 Tryz.underlying177 hj hsh lies61]
  simp only [Result.andThen]
  rw [Oper.upon_value]
  go_wp2
  go_end0
  exact ⟨rfl, rfl⟩

theorem check_any {w : World} {B b : Nat} {v : Value} {l : List UInt8} (h : Bd w B b v l) :
    Calls Tryz.prog 169 #[.pointer (some ⟨b, 0, none⟩)] w fun e w' => e = .returned (.tuple #[]) ∧ w'.heap[b]? = some (.cells #[.pointer (some ⟨b, 0, none⟩), v] 179 (0, 0)) ∧ Only (fun k => k = b) w w' := by
  obtain ⟨⟨p, hp, hc⟩, h3, h4⟩ := h
  rcases hp with rfl | rfl
  · refine (check_fresh b w (by rw [Lib.cell_of_heap hc]; rfl) (by simp [World.shape?, hc]) (Lib.frozen_of_heap hc 0)).mono ?_
    rintro e w' ⟨rfl, rfl⟩
    exact ⟨rfl, by simp [World.setCell, Array.getElem?_modify, hc], (Only.refl _ w).setCell ⟨b, 0, none⟩ _ (fun _ => rfl)⟩
  · refine (check_used b w (by rw [Lib.cell_of_heap hc]; rfl)).mono ?_
    rintro e w' ⟨rfl, rfl⟩
    exact ⟨rfl, hc, Only.refl _ _⟩

/-- What a write leaves. -/
def Wrote (w w' : World) (B b : Nat) (v : Value) (l : List UInt8) : Prop :=
  ∃ v', Bd w' B b v' l ∧ Only (fun k => k = b ∨ v.ownBlock = some k) w w'

set_option maxHeartbeats 2000000 in
set_option maxRecDepth 100000 in
theorem writeByte_any {w : World} {B b : Nat} {v : Value} {l : List UInt8} (c : UInt8) (h : Bd w B b v l) (hlen : l.length + 1 ≤ 140737488355328) (hBw : B ≤ w.heap.size) :
    Calls Tryz.prog 135 #[.pointer (some ⟨b, 0, none⟩), .int .u8 (c.toNat : Int)] w fun e w' => e = .returned .nilIface ∧ Wrote w w' B b v (l ++ [c]) := by
  obtain ⟨i0, hi, hz0, hz1, hz2⟩ := info_parts Tryz.info5
  have hck := check_any h
  have hown0 := h.2.1
  have hne := h.2.2
  have hlt0 := h.lt
  generalize hcc : (c.toNat : Int) = cc
  go_enter Tryz.func135, Tryz.ntmps135
  go_wp2_with (go_at_call 169; refine hck.mono ?_)
  rintro e w1 ⟨rfl, hbk, o1⟩
  have hs1 := o1.size
  have hown : w1.ownsRow B 5 1 v l.length (Lib.byteCells l) := o1.row hown0 (fun k hk e => hne (by rw [hk, e]))
  have c0 : w1.cell? ⟨b, 0, none⟩ = some (.pointer (some ⟨b, 0, none⟩)) := by rw [Lib.cell_of_heap hbk]; rfl
  have c1 : w1.cell? ⟨b, 1, none⟩ = some v := by rw [Lib.cell_of_heap hbk]; rfl
  go_wp2_with (at_builtin; refine wpList_append_own _ rfl _ _ 26 rfl B 5 i0 (.int .u8 0) 1 1 Tryz.underlying26 hi hz0 hz1 hz2 rfl (by decide) _ _ _ rfl (hown.alloc _) ⟨w1.heap.size, 0, none⟩ 1 1 [.int .u8 cc] rfl rfl ?c1 ?c2 ?c3 ?c4 ?c5 ?_)
  case c1 =>
    intro j u hj
    match j, hj with
    | 0, hj => simp at hj; subst hj; simp [Addr.add]
  case c2 => intro u hu; simp at hu; subst hu; rfl
  case c3 => unfold maxLen; omega
  case c4 => omega
  case c5 => simp; omega
  intro v' w2 hown' hgrow _
  have hb2 : w2.heap[b]? = some (.cells #[.pointer (some ⟨b, 0, none⟩), v] 179 (0, 0)) := by
    rw [hgrow.block b (by simp; omega) (fun e => hne e.symm), Lib.alloc_old w1 _ b (by omega)]
    exact hbk
  have d0 : w2.cell? ⟨b, 0, none⟩ = some (.pointer (some ⟨b, 0, none⟩)) := by rw [Lib.cell_of_heap hb2]; rfl
  have d1 : w2.cell? ⟨b, 1, none⟩ = some v := by rw [Lib.cell_of_heap hb2]; rfl
  have f1 : w2.frozen? ⟨b, 1, none⟩ = false := Lib.frozen_of_heap hb2 1
  have hnb : v'.ownBlock ≠ some b := Lib.ownBlock_ne hown' hb2 (by decide)
  obtain ⟨g, cap, rfl⟩ : ∃ g cap, v' = .slice (some ⟨g, 0, none⟩) (l.length + 1) cap := by
    rcases hown'.2 with ⟨_, h0⟩ | ⟨g, cap, cur, hv, _⟩
    · omega
    · exact ⟨g, cap, hv⟩
  go_wp2
  go_ret
  have o2 : Only (fun k => k = b ∨ v.ownBlock = some k) w w2 := ((o1.mono (fun k _ e => .inl e)).alloc _).trans (Only.ofGrown hgrow) (fun k _ e => .inr e)
  refine ⟨rfl, _, ⟨⟨_, .inr rfl, ?_⟩, ?_, hnb⟩, o2.setCell _ _ (fun _ => .inl rfl)⟩
  · simp [World.setCell, Array.getElem?_modify, hb2]
  · have hw : w2.ownsRow B 5 1 (.slice (some ⟨g, 0, none⟩) (l.length + 1) cap) (l ++ [c]).length (Lib.byteCells (l ++ [c])) := by
      have e1 : Lib.byteCells (l ++ [c]) = Lib.byteCells l ++ [.int .u8 cc] := by rw [← hcc]; simp [Lib.byteCells]
      rw [e1, List.length_append]
      exact hown'
    exact hw.kept (row := some b) ⟨rfl, rfl, rfl, by simp [World.setCell], fun k _ hk => Below.heap_setCell _ _ _ _ (fun e => hk (by simp [e]))⟩ (Or.inr hnb)
set_option maxHeartbeats 2000000 in
set_option maxRecDepth 100000 in
theorem writeString_any {w : World} {B b : Nat} {v : Value} {l : List UInt8} (s : ByteArray) (h : Bd w B b v l) (hlen : l.length + s.size ≤ 140737488355328) (hBw : B ≤ w.heap.size) :
    Calls Tryz.prog 136 #[.pointer (some ⟨b, 0, none⟩), .string s] w fun e w' => e = .returned (.tuple #[.int .i64 s.size, .nilIface]) ∧ Wrote w w' B b v (l ++ s.data.toList) := by
  obtain ⟨i0, hi, hz0, hz1, hz2⟩ := info_parts Tryz.info5
  have hck := check_any h
  have hown0 := h.2.1
  have hne := h.2.2
  have hlt0 := h.lt
  go_enter Tryz.func136, Tryz.ntmps136
  go_wp2_with (go_at_call 169; refine hck.mono ?_)
  rintro e w1 ⟨rfl, hbk, o1⟩
  have hs1 := o1.size
  have hown : w1.ownsRow B 5 1 v l.length (Lib.byteCells l) := o1.row hown0 (fun k hk e => hne (by rw [hk, e]))
  have c0 : w1.cell? ⟨b, 0, none⟩ = some (.pointer (some ⟨b, 0, none⟩)) := by rw [Lib.cell_of_heap hbk]; rfl
  have c1 : w1.cell? ⟨b, 1, none⟩ = some v := by rw [Lib.cell_of_heap hbk]; rfl
  go_wp2_with (at_builtin; refine Lib.wpList_append_own_string _ rfl _ _ 26 9 rfl B 5 i0 Tryz.underlying26 Tryz.underlying9 hi hz0 hz1 hz2 _ _ _ rfl hown s rfl ?c3 ?c4 ?c5 ?_)
  case c3 => unfold maxLen; omega
  case c4 => omega
  case c5 => omega
  intro v' w2 hown' hgrow _
  have hb2 : w2.heap[b]? = some (.cells #[.pointer (some ⟨b, 0, none⟩), v] 179 (0, 0)) := by
    rw [hgrow.block b (by omega) (fun e => hne e.symm)]
    exact hbk
  have d0 : w2.cell? ⟨b, 0, none⟩ = some (.pointer (some ⟨b, 0, none⟩)) := by rw [Lib.cell_of_heap hb2]; rfl
  have d1 : w2.cell? ⟨b, 1, none⟩ = some v := by rw [Lib.cell_of_heap hb2]; rfl
  have f1 : w2.frozen? ⟨b, 1, none⟩ = false := Lib.frozen_of_heap hb2 1
  have hnb : v'.ownBlock ≠ some b := Lib.ownBlock_ne hown' hb2 (by decide)
  obtain ⟨ao, n', cap, rfl⟩ : ∃ ao n' cap, v' = .slice ao n' cap := by
    rcases hown'.2 with ⟨hv, _⟩ | ⟨g, cap, cur, hv, _⟩
    · exact ⟨_, _, _, hv⟩
    · exact ⟨_, _, _, hv⟩
  go_wp2
  go_ret2
  have o2 : Only (fun k => k = b ∨ v.ownBlock = some k) w w2 := (o1.mono (fun k _ e => .inl e)).trans (Only.ofGrown hgrow) (fun k _ e => .inr e)
  refine ⟨rfl, _, ⟨⟨_, .inr rfl, ?_⟩, ?_, hnb⟩, o2.setCell _ _ (fun _ => .inl rfl)⟩
  · simp [World.setCell, Array.getElem?_modify, hb2]
  · have hw : w2.ownsRow B 5 1 (.slice ao n' cap) (l ++ s.data.toList).length (Lib.byteCells (l ++ s.data.toList)) := by
      have e1 : Lib.byteCells (l ++ s.data.toList) = Lib.byteCells l ++ Lib.strCells s := by simp [Lib.byteCells, Lib.strCells]
      rw [e1, List.length_append, ← Lib.size_eq]
      exact hown'
    exact hw.kept (row := some b) ⟨rfl, rfl, rfl, by simp [World.setCell], fun k _ hk => Below.heap_setCell _ _ _ _ (fun e => hk (by simp [e]))⟩ (Or.inr hnb)
end Go.Proofs.YtpepgoelnagoaaaGreatDoor
