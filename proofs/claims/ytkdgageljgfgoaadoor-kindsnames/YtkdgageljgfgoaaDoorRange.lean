/-
  KEYS GONE OVER: Clone, the program's Fronts, its closure, and a law for the statement 'for ahead, key := range Fronts(l)'.
  A LAW for the statement 'for ahead, key := range Fronts(l) { .. }'.
-/
import Derived.Test.YtkdgageljgfgoaaDoorKey
namespace Go.Proofs.YtkdgageljgfgoaaDoor
open Go.RowKit Go.Shelf
set_option linter.unusedSimpArgs false
attribute [local go_sem] Oper.semAt_some

/-- The slice value v owns the texts L, in a block from B on. -/
def Os (w : World) (B : Nat) (v : Value) (L : List ByteArray) : Prop := w.ownsRow B 9 1 v L.length (L.map Value.string)
theorem Os.shape {w : World} {B : Nat} {v : Value} {L : List ByteArray} (h : Os w B v L) : ∃ ao c, v = .slice ao L.length c ∧ Rs w ao L ∧ (∀ a, ao = some a → B ≤ a.block ∧ a.block < w.heap.size) ∧ (ao = none → c = 0) ∧ L.length ≤ c := by
  have hlt := World.ownsRow.lt h
  have hcells := fun g => World.ownsRow.cells h (g := g)
  rcases h.2 with ⟨rfl, hn⟩ | ⟨g, cap, cur, rfl, hb, hg, hnc, rest⟩
  · exact ⟨none, 0, by rw [hn], ⟨fun _ => List.eq_nil_of_length_eq_zero hn, by simp⟩, by simp, fun _ => rfl, by omega⟩
  · refine ⟨some ⟨g, 0, none⟩, cap, rfl, ⟨by simp, ?_⟩, ?_, by simp, hnc⟩
    · intro a ha j s hj
      cases ha
      exact hcells g rfl j (.string s) (by rw [List.getElem?_map, hj]; rfl)
    · intro a ha
      cases ha
      exact hlt g rfl
theorem Os.only {w w' : World} {B : Nat} {v : Value} {L : List ByteArray} {D : Nat → Prop} (h : Os w B v L) (ho : Only D w w') (hv : ∀ k, v.ownBlock = some k → ¬ D k) : Os w' B v L := ho.row h hv
theorem Os.below {w w' : World} {B : Nat} {v : Value} {L : List ByteArray} (h : Os w B v L) (hb : Below w.heap.size w w') : Os w' B v L := h.only (Only.ofBelow hb) (fun _ _ d => d.elim)
theorem Os.nil (w : World) (B : Nat) : Os w B (.slice none 0 0) [] := World.ownsRow_nil _ _ _ _
theorem clone_any {w : World} {ao : Option Addr} {c : Nat} {l : List ByteArray} (h : Rs w ao l) (hl : l.length ≤ 1000000) :
    Calls Tryd.prog 77 #[.slice ao l.length c] w fun e w' => ∃ v, e = .returned v ∧ Os w' w.heap.size v l ∧ Below w.heap.size w w' := by
  cases ao with
  | none =>
    have := h.1 rfl
    subst this
    refine (Tryd.slices_Clone_string_nil _ _ w).mono ?_
    rintro e w' ⟨rfl, rfl⟩
    exact ⟨_, rfl, Os.nil _ _, Below.refl _ _⟩
  | some a =>
    cases l with
    | nil =>
      refine (Tryd.slices_Clone_string_zero a c w).mono ?_
      rintro e w' ⟨v, rfl, h1, _, h2⟩
      exact ⟨v, rfl, h1, h2⟩
    | cons x t =>
      obtain ⟨ab, off, ha, _⟩ := h.at (k := 0) (s := x) rfl
      cases ha
      refine (Tryd.slices_Clone_string ab off (x :: t).length c (x :: t) w (Nat.le_refl _) (by omega) (fun j hj => ?_)).mono ?_
      · obtain ⟨ab', off', ha', hc'⟩ := h.at (List.getElem?_eq_getElem hj)
        cases ha'
        rw [hc']
        simp [List.getD, List.getElem?_eq_getElem hj]
      · rintro e w' ⟨v, rfl, h1, _, h2⟩
        rw [List.take_length] at h1
        exact ⟨v, rfl, h1, h2⟩

/-- The keys, as the closure has them in the box L. -/
structure KAt (W : World) (L : Nat) (ao : Option Addr) (c : Nat) (l : List ByteArray) : Prop where
  box : W.cell? ⟨L, 0, none⟩ = some (.slice ao l.length c)
  rs : Rs W ao l
  cap : l.length ≤ c
  nil : ao = none → c = 0
theorem KAt.only {W W' : World} {L : Nat} {ao : Option Addr} {c : Nat} {l : List ByteArray} {D : Nat → Prop} (h : KAt W L ao c l) (k : Only D W W') (hL : ¬ D L) (hv : ∀ a, ao = some a → ¬ D a.block) : KAt W' L ao c l :=
  ⟨k.cell h.box hL, h.rs.only k hv, h.cap, h.nil⟩
theorem KAt.below {W W' : World} {L : Nat} {ao : Option Addr} {c : Nat} {l : List ByteArray} (h : KAt W L ao c l) (k : Below W.heap.size W W') : KAt W' L ao c l :=
  h.only (Only.ofBelow k) (fun d => d.elim) (fun _ _ d => d.elim)

theorem fronts_any {w : World} {ao : Option Addr} {c : Nat} {l : List ByteArray} (h : Rs w ao l) (hl : l.length ≤ 1000000) :
    Calls Tryd.prog 56 #[.slice ao l.length c] w fun e w' => ∃ L a' c', e = .returned (.func (.func 78) #[] #[.pointer (some ⟨L, 0, none⟩)]) ∧ KAt w' L a' c' l ∧ w.heap.size ≤ L ∧ (∀ a, a' = some a → w.heap.size ≤ a.block ∧ a.block < w'.heap.size) ∧ Below w.heap.size w w' := by
  have hc := clone_any (c := c) h hl
  go_enter Tryd.func56, Tryd.ntmps56
  go_wp2_with (go_at_call 77; refine hc.mono ?_; rintro e w1 ⟨v, rfl, hO, b1⟩; obtain ⟨a', c', rfl, hr, hb, hn, hcp⟩ := hO.shape)
  go_ret
  have hb2 : Below w1.heap.size w1 (w1.alloc (.cells #[.slice a' l.length c'] 26)) := (Below.refl _ w1).alloc (Nat.le_refl _) _
  refine ⟨w1.heap.size, a', c', rfl, ⟨?_, hr.below hb2, hcp, hn⟩, b1.size, fun a ha => ⟨(hb a ha).1, ?_⟩, b1.trans (hb2.mono b1.size)⟩
  · rw [cell_of_row _ _ 0 _ 26 (0, 0) (heap_alloc_new w1 _)]; rfl
  · have := (hb a ha).2; simp; omega

/-- What a round may turn: blocks of D that were there when it began, and the keys that it was handed. -/
def Turns (D : Nat → Prop) (m : Nat) (v : Value) : Nat → Prop := fun j => (D j ∧ j < m) ∨ v.ownBlock = some j

theorem sliceS_hi {ao : Option Addr} {n c j : Nat} (hj : j ≤ c) (hn : ao = none → c = 0) (w : World) : (Instr.slice 26 (.slice ao n c) none (some (.int .i64 j)) none).run Tryd.prog w = .ok (.slice ao j c) w := by
  have h2 : (0 : Int) ≤ (j : Int) ∧ (j : Int) ≤ (c : Int) := by omega
  by_cases hc : c = 0
  · subst hc
    simp [Instr.slice, Instr.sliceBounds, Instr.sliceBound, asIntOf, run_underlying Tryd.underlying26, go_sem, hj]
  · cases ao with
    | none => exact (hc (hn rfl)).elim
    | some a => simp [Instr.slice, Instr.sliceBounds, Instr.sliceBound, asIntOf, run_underlying Tryd.underlying26, go_sem, hj, hc, Addr.add]

set_option maxRecDepth 100000 in
set_option maxHeartbeats 600000 in
/-- The closure, whatever the rounds do. -/
theorem fronts1_in (l L : Nat) (ao : Option Addr) (c : Nat) (ks : List ByteArray) (hlen : ks.length ≤ 1000000) (D : Nat → Prop) (J : Nat → World → Prop) (Jx : World → Prop)
    (hDL : ¬ D L) (hDa : ∀ a, ao = some a → ¬ D a.block)
    (hY : ∀ k key v W0 W, ks[k]? = some key → J k W0 → Below W0.heap.size W0 W → Os W W0.heap.size v (ks.take k) → YieldAt Fence.wide 4 Tryd.prog l #[v, .string key] W fun e W' =>
      Only (Turns D W0.heap.size v) W W' ∧ ((e = .returned (.bool true) ∧ J (k + 1) W') ∨ (e = .returned (.bool false) ∧ Jx W')))
    (W : World) (hL : KAt W L ao c ks) (h0 : J 0 W) :
    CallsIn Fence.wide 5 Tryd.prog 78 #[.func (.yield l) #[] #[], .pointer (some ⟨L, 0, none⟩)] W fun e W' => (∃ v, e = .returned v) ∧ (J ks.length W' ∨ Jx W') := by
  have hn : 1 ≤ 5 := by omega
  have hbx := hL.box
  obtain ⟨N, hN⟩ : ∃ N, N = ks.length := ⟨_, rfl⟩
  rw [← hN] at hbx hlen ⊢
  have HN := hide hN
  clear hN
  refine callsIn_of_wp Tryd.func78 rfl trivial ?_ rfl
  simp only [Tryd.ntmps78, List.size_toArray, List.length_cons, List.length_nil, Nat.reduceAdd, Nat.reduceSub, Array.replicate_succ, Array.replicate_zero, List.push_toArray, List.append_toArray, List.nil_append, List.cons_append]
  gi_wp2
  gi_loopw [7] (fun i wr => ∃ k : Nat, k ≤ N ∧ i = .int .i64 k ∧ J k wr ∧ KAt wr L ao c ks) (fun i _ => N - (intOf i).toNat)
  case atStart => exact ⟨0, Nat.zero_le _, rfl, h0, hL⟩
  case round =>
    obtain ⟨k, hk, rfl, hJ, hK⟩ := hrel
    by_cases hlt : k < N
    · have d1 : decide (k < N) = true := by simpa using hlt
      have d1' : (k : Int) < (N : Int) := by omega
      obtain ⟨key, hkey⟩ : ∃ key, ks[k]? = some key := ⟨_, List.getElem?_eq_getElem (by rw [← HN.out]; exact hlt)⟩
      obtain ⟨ab, off, rfl, hck⟩ := hK.rs.at hkey
      have hbox := hK.box
      rw [← HN.out] at hbox
      have hcap := hK.cap
      have hsl := fun W' => sliceS_hi (ao := some ⟨ab, off, none⟩) (n := N) (c := c) (j := k) (by have := HN.out; omega) (by simp) W'
      have htl : (ks.take k).length = k := by rw [List.length_take]; have := HN.out; omega
      have hcl := clone_any (c := c) (hK.rs.take k) (by rw [htl]; omega)
      rw [htl] at hcl
      have HJ := hide (And.intro hJ (And.intro hK hkey))
      clear hJ hK hkey hL h0 htl
      gi_wp2_with (refine ⟨trivial, ?_⟩; gi_at_call 77; refine (callsIn_wide.2 hcl).mono ?_; rintro e w2 ⟨v, rfl, hO, b2⟩; obtain ⟨fn, tmps, assign, body, hy, hR⟩ := hY k key v wr w2 HJ.out.2.2 HJ.out.1 b2 hO)
      refine hR.mono ?_
      rintro e W5 ⟨hon, (⟨rfl, hJ5⟩ | ⟨rfl, hJx5⟩)⟩
      · have hnt : ∀ j, j < wr.heap.size → ¬ D j → ¬ Turns D wr.heap.size v j := fun j hj hd e => by
          rcases e with e | e
          · exact hd e.1
          · have := (World.ownsRow.lt hO j e).1; omega
        have hK5 := (HJ.out.2.1.below b2).only hon (hnt L (World.block_lt_of_cell? _ _ HJ.out.2.1.box) hDL) (fun a ha => by
          cases ha
          have := World.block_lt_of_cell? _ _ hck
          exact hnt _ this (hDa _ rfl))
        have HJ5 := hide (And.intro hJ5 hK5)
        clear hJ5 hK5 hR hcl
        gi_wp2
        go_roundw
        case rel => exact ⟨k + 1, by omega, by go_num, HJ5.out.1, HJ5.out.2⟩
        case measure => simp [intOf]; omega
      · gi_wp2
        refine bodyPost_ret (results_none rfl _ _ _) rfl ?_
        exact ⟨⟨_, rfl⟩, .inr hJx5⟩
    · obtain rfl : k = N := by omega
      have d1 : decide (k < k) = false := by simp
      have HJ := hide hJ
      clear hJ hL h0 hK
      gi_wp2
      go_end0
      exact ⟨⟨_, rfl⟩, .inl HJ.out⟩
end Go.Proofs.YtkdgageljgfgoaaDoor
namespace Go.Proofs.YtkdgageljgfgoaaDoor
open Go.RowKit Go.Shelf
set_option linter.unusedSimpArgs false
attribute [local go_sem] Oper.semAt_some

set_option maxHeartbeats 1000000 in
/-- 'for at, f := range all { .. }': D holds the old blocks that a round may turn; I is what holds between rounds, Ix where one has left by a jump. -/
theorem range_fr {a : Act} {w : World} {Q : Exit → Act → World → Prop} {g : Operand} {ps : Array Tmp} {assign body : Code} (L : Nat) (ao : Option Addr) (c : Nat) (ks : List ByteArray)
    (hg : a.eval g = .func (.func 78) #[] #[.pointer (some ⟨L, 0, none⟩)]) (hps : ps.size = 2) (hL : KAt w L ao c ks) (hlen : ks.length ≤ 1000000)
    (D : Nat → Prop) (hDL : ¬ D L) (hDa : ∀ a, ao = some a → ¬ D a.block) (hDs : ¬ D w.heap.size) (hDt : ¬ D (w.heap.size + 1)) (hau : ∀ a, ao = some a → a.block < w.heap.size)
    (I : Nat → World → Prop) (Ix : Code → World → Prop) (hI : ∀ k W W', I k W → Only (fun j => j = w.heap.size + 1) W W' → I k W') (hIx : ∀ c W W', Ix c W → Only (fun j => j = w.heap.size + 1) W W' → Ix c W') (h0 : I 0 w)
    (hround : ∀ k key v W0 W, ks[k]? = some key → I k W0 → Below W0.heap.size W0 W → Os W W0.heap.size v (ks.take k) → w.heap.size + 1 < W0.heap.size →
      assign.wpIn (Fence.wide.inRound (w.heap.size + 1)) 4 Tryd.prog (Exit.then (fun a1 W1 => Only (Turns D W0.heap.size v) W W1 ∧ ∀ W2, Only (fun j => j = w.heap.size + 1) W1 W2 → body.wpIn (Fence.wide.inRound (w.heap.size + 1)) 4 Tryd.prog (rpost (Turns D W0.heap.size v) I Ix W2 (k + 1)) a1 W2) (fun _ _ _ => False))
        { tmps := (ps.zip #[v, .string key]).foldl (fun t (p, v) => t.setIfInBounds p v) a.tmps, defers := [] } W)
    (hdone : ∀ W, I ks.length W → w.heap.size < W.heap.size → W.heap[w.heap.size]? = some (.deferred (some [])) → Q .normal { a with defers := { target := .collected w.heap.size, args := #[] } :: a.defers } W)
    (hstop : ∀ c W, Ix c W → w.heap.size < W.heap.size → W.heap[w.heap.size]? = some (.deferred (some [])) → c.wp Tryd.prog Q { a with defers := { target := .collected w.heap.size, args := #[] } :: a.defers } W) :
    (Code.rangeFunc g ps assign body).wp Tryd.prog Q a w := by
  refine (wpIn_wide (n := 6)).1 (wpIn_rangeFunc (fun fn _ => ?_))
  obtain ⟨rec, hrec⟩ : ∃ rec : LoopState → Option Code → Loop, rec = fun st pe => { state := st, pending := pe, fn := fn, tmps := a.tmps, params := ps, assign := assign, body := body, defers := w.heap.size } := ⟨_, rfl⟩
  obtain ⟨W1, hW1⟩ : ∃ W1, (w.alloc (.deferred (some []))).alloc (.loop (rec .ready none)) = W1 := ⟨_, rfl⟩
  obtain ⟨m0, m1⟩ := new2 w (.deferred (some [])) (.loop (rec .ready none))
  rw [hW1] at m0 m1
  have hb1 : Below w.heap.size w W1 := by rw [← hW1]; exact ((Below.refl _ w).alloc (Nat.le_refl _) _).alloc (by simp) _
  have hs1 : W1.heap.size = w.heap.size + 2 := by rw [← hW1]; simp
  have toOnly : ∀ {A B : World}, Below A.heap.size A B → Only (fun j => j = w.heap.size + 1) A B := fun h => (Only.ofBelow h).mono (fun _ _ d => d.elim)
  have hLlt : L < w.heap.size := World.block_lt_of_cell? w _ hL.box
  have toLog : ∀ {A B : World}, KAt A L ao c ks → Only (fun j => j = w.heap.size + 1) A B → KAt B L ao c ks := fun h k => h.only k (by omega) (fun a ha e => by have := hau a ha; omega)
  refine ⟨w.heap.size + 1, [{ target := .collected w.heap.size, args := #[] }], W1, { target := .fn (.func 78) #[.pointer (some ⟨L, 0, none⟩)], args := #[.func (.yield (w.heap.size + 1)) #[] #[]] }, W1, 78,
    #[.func (.yield (w.heap.size + 1)) #[] #[]] ++ #[.pointer (some ⟨L, 0, none⟩)], W1, ?_, ?_, fun _ _ => trivial, ?_, fun _ => by omega, ?_⟩
  · rw [← hW1, hrec]; exact run_enterLoop_outer _ _ _ _ _
  · simp only [resolve, hg]
    simp [go_sem]
  · have eg := enters_of (P := Tryd.prog) (f := 78) Tryd.func78 (by kernel_rfl) rfl
    simp [invoke, go_sem, eg]
  · have hlog1 : KAt W1 L ao c ks := hL.below hb1
    refine (fronts1_in (w.heap.size + 1) L ao c ks hlen (fun j => D j ∨ j = w.heap.size + 1)
      (fun k W => I k W ∧ W.heap[w.heap.size + 1]? = some (.loop (rec .ready none)) ∧ W.heap[w.heap.size]? = some (.deferred (some [])))
      (fun W => ∃ c, Ix c W ∧ W.heap[w.heap.size + 1]? = some (.loop (rec .done (some c))) ∧ W.heap[w.heap.size]? = some (.deferred (some [])))
      (fun e => e.elim hDL (fun e => by omega)) (fun a ha e => e.elim (hDa a ha) (fun e => by have := hau a ha; omega)) ?_ W1 hlog1 ⟨hI 0 w W1 h0 (toOnly hb1), m1, m0⟩).mono ?_
    · rintro k key v W0 W hx ⟨hi, hl0, hk0⟩ hbW hH
      have hlt0 : w.heap.size + 1 < W0.heap.size := (Array.getElem?_eq_some_iff.1 hl0).1
      have hD0 : ¬ Turns D W0.heap.size v w.heap.size := fun e => e.elim (fun e => hDs e.1) (fun e => by have := (World.ownsRow.lt hH _ e).1; omega)
      have hD1 : ¬ Turns D W0.heap.size v (w.heap.size + 1) := fun e => e.elim (fun e => hDt e.1) (fun e => by have := (World.ownsRow.lt hH _ e).1; omega)
      have hl : W.heap[w.heap.size + 1]? = some (.loop (rec .ready none)) := (hbW.block _ hlt0).trans hl0
      have hk : W.heap[w.heap.size]? = some (.deferred (some [])) := (hbW.block _ (by omega)).trans hk0
      have hy := run_yield (P := Tryd.prog) (args := #[v, .string key]) hl (by rw [hrec]; exact hps.symm)
      rw [hrec] at hy
      refine ⟨fn, _, assign, body, hy, roundIn_of_wpIn trivial (wpIn_mono (hround k key v W0 W hx hi hbW hH hlt0) ?_)⟩
      rintro e a1 Wa hp
      cases e with
      | normal =>
        obtain ⟨hoa, hbody⟩ := hp
        have hla : Wa.heap[w.heap.size + 1]? = some (.loop (rec .ready none)) := (hoa.block _ (Array.getElem?_eq_some_iff.1 hl).1 hD1).trans hl
        have hka : Wa.heap[w.heap.size]? = some (.deferred (some [])) := (hoa.block _ (Array.getElem?_eq_some_iff.1 hk).1 hD0).trans hk
        refine ⟨_, run_beginRound hla (by rw [hrec]), ?_⟩
        have hlta := (Array.getElem?_eq_some_iff.1 hla).1
        have hl2 : (Wa.putObj (w.heap.size + 1) (.loop { rec .ready none with state := .busy })).heap[w.heap.size + 1]? = some (.loop { rec .ready none with state := .busy }) := World.putObj_heap_same hlta
        have hk2 : (Wa.putObj (w.heap.size + 1) (.loop { rec .ready none with state := .busy })).heap[w.heap.size]? = some (.deferred (some [])) := (World.putObj_heap_other (by omega)).trans hka
        have hT : ∀ {A B : World}, Only (Turns D W0.heap.size v) A B → Only (Turns (fun j => D j ∨ j = w.heap.size + 1) W0.heap.size v) A B := fun h => h.mono (fun j _ e => e.elim (fun e => .inl ⟨.inl e.1, e.2⟩) .inr)
        have hT2 : ∀ {A B : World}, Only (fun j => j = w.heap.size + 1) A B → Only (Turns (fun j => D j ∨ j = w.heap.size + 1) W0.heap.size v) A B := fun h => h.mono (fun j _ e => .inl ⟨.inr e, by omega⟩)
        have hTw := (hT hoa).trans (hT2 (only_putObj Wa (w.heap.size + 1) (.loop { rec .ready none with state := .busy }))) (fun _ _ h => h)
        refine wpIn_mono (hbody _ (only_putObj Wa _ _)) ?_
        have fin : ∀ (jump : Option Code) (W3 : World), Only (Turns D W0.heap.size v) (Wa.putObj (w.heap.size + 1) (.loop { rec .ready none with state := .busy })) W3 → ∃ W4, (Instr.endRound (w.heap.size + 1) jump).run Tryd.prog W3 = .ok (.bool jump.isNone) W4 ∧ Only (fun j => j = w.heap.size + 1) W3 W4 ∧
            W4.heap[w.heap.size + 1]? = some (.loop (rec (if jump.isNone then .ready else .done) jump)) ∧ W4.heap[w.heap.size]? = some (.deferred (some [])) ∧ Only (Turns (fun j => D j ∨ j = w.heap.size + 1) W0.heap.size v) W W4 := fun jump W3 ho3 => by
          have hl3 := (ho3.block _ (by simpa using hlta) hD1).trans hl2
          have hk3 := (ho3.block _ (by simp; omega) hD0).trans hk2
          have := run_endRound (P := Tryd.prog) jump hl3
          refine ⟨_, this, only_putObj W3 _ _, ?_, (World.putObj_heap_other (by omega)).trans hk3, (hTw.trans (hT ho3) (fun _ _ h => h)).trans (hT2 (only_putObj W3 _ _)) (fun _ _ h => h)⟩
          rw [World.putObj_heap_same (Array.getElem?_eq_some_iff.1 hl3).1, hrec]
        rintro e a3 W3 hp3
        cases e with
        | normal =>
          obtain ⟨ho3, hi3⟩ := hp3
          obtain ⟨W4, hr, ho4, hl4, hk4, hL4⟩ := fin none W3 ho3
          exact ⟨_, _, hr, hL4, .inl ⟨rfl, hI _ _ _ hi3 ho4, hl4, hk4⟩⟩
        | ret =>
          obtain ⟨ho3, hi3⟩ := hp3
          obtain ⟨W4, hr, ho4, hl4, hk4, hL4⟩ := fin (some .ret) W3 ho3
          exact ⟨_, _, hr, hL4, .inr ⟨rfl, .ret, hIx _ _ _ hi3 ho4, hl4, hk4⟩⟩
        | exit id =>
          obtain ⟨ho3, hi3⟩ := hp3
          obtain ⟨W4, hr, ho4, hl4, hk4, hL4⟩ := fin (some (.exit id)) W3 ho3
          exact ⟨_, _, hr, hL4, .inr ⟨rfl, .exit id, hIx _ _ _ hi3 ho4, hl4, hk4⟩⟩
        | goto t =>
          obtain ⟨ho3, hi3⟩ := hp3
          obtain ⟨W4, hr, ho4, hl4, hk4, hL4⟩ := fin (some (.goto t)) W3 ho3
          exact ⟨_, _, hr, hL4, .inr ⟨rfl, .goto t, hIx _ _ _ hi3 ho4, hl4, hk4⟩⟩
        | panic ch => exact hp3.elim
        | outgrown => exact hp3.elim
      | ret => exact hp.elim
      | exit id => exact hp.elim
      | goto t => exact hp.elim
      | panic ch => exact hp.elim
      | outgrown => exact hp.elim
    · rintro e W2 ⟨⟨v, rfl⟩, (⟨hi, hl, hk⟩ | ⟨c, hi, hl, hk⟩)⟩
      · have hlt := (Array.getElem?_eq_some_iff.1 hk).1
        refine ⟨none, _, by have := run_endLoop (P := Tryd.prog) hl (by rw [hrec]; simp); rw [hrec] at this; exact this, hdone _ (hI _ _ _ hi (only_putObj _ _ _)) (by simpa using hlt) ((World.putObj_heap_other (by omega)).trans hk)⟩
      · have hlt := (Array.getElem?_eq_some_iff.1 hk).1
        refine ⟨some c, _, by have := run_endLoop (P := Tryd.prog) hl (by rw [hrec]; simp); rw [hrec] at this; exact this, wpIn_wide.2 (hstop c _ (hIx _ _ _ hi (only_putObj _ _ _)) (by simpa using hlt) ((World.putObj_heap_other (by omega)).trans hk))⟩

end Go.Proofs.YtkdgageljgfgoaaDoor
