/-
  KEYS GONE OVER: Clone, the program's Fronts, its closure, and a law for the statement 'for ahead, key := range Fronts(l)'.
-/
import Derived.Test.YtcpigbojebjlaaaDoorSplit
namespace Go.Proofs.YtcpigbojebjlaaaDoor
open Go.RowKit Go.Shelf
set_option linter.unusedSimpArgs false
attribute [local go_sem] Oper.semAt_some

theorem clone_any {w : World} {ao : Option Addr} {c : Nat} {l : List ByteArray} (h : Rs w ao l) (hl : l.length ≤ 1000000) :
    Calls Tryd.prog 49 #[.slice ao l.length c] w fun e w' => ∃ v, e = .returned v ∧ Os w' w.heap.size v l ∧ Below w.heap.size w w' := by
  cases ao with
  | none =>
    have := h.1 rfl
    subst this
    refine (Tryd.slices_Clone_string_nil _ _ w).mono ?_
    rintro e w' ⟨rfl, rfl⟩
    exact ⟨_, rfl, Os.nil _ _, Below.refl _ _⟩
  | some a =>
    cases l with
    | nil =>
      refine (Tryd.slices_Clone_string_zero a c w).mono ?_
      rintro e w' ⟨v, rfl, h1, _, h2⟩
      exact ⟨v, rfl, h1, h2⟩
    | cons x t =>
      obtain ⟨ab, off, ha, _⟩ := h.at (k := 0) (s := x) rfl
      cases ha
      refine (Tryd.slices_Clone_string ab off (x :: t).length c (x :: t) w (Nat.le_refl _) (by omega) (fun j hj => ?_)).mono ?_
      · obtain ⟨ab', off', ha', hc'⟩ := h.at (List.getElem?_eq_getElem hj)
        cases ha'
        rw [hc']
        simp [List.getD, List.getElem?_eq_getElem hj]
      · rintro e w' ⟨v, rfl, h1, _, h2⟩
        rw [List.take_length] at h1
        exact ⟨v, rfl, h1, h2⟩

/-- The keys, as the closure has them in the box L. -/
structure KAt (W : World) (L : Nat) (ao : Option Addr) (c : Nat) (l : List ByteArray) : Prop where
  box : W.cell? ⟨L, 0, none⟩ = some (.slice ao l.length c)
  rs : Rs W ao l
  cap : l.length ≤ c
  nil : ao = none → c = 0
theorem KAt.only {W W' : World} {L : Nat} {ao : Option Addr} {c : Nat} {l : List ByteArray} {D : Nat → Prop} (h : KAt W L ao c l) (k : Only D W W') (hL : ¬ D L) (hv : ∀ a, ao = some a → ¬ D a.block) : KAt W' L ao c l :=
  ⟨k.cell h.box hL, h.rs.only k hv, h.cap, h.nil⟩
theorem KAt.below {W W' : World} {L : Nat} {ao : Option Addr} {c : Nat} {l : List ByteArray} (h : KAt W L ao c l) (k : Below W.heap.size W W') : KAt W' L ao c l :=
  h.only (Only.ofBelow k) (fun d => d.elim) (fun _ _ d => d.elim)

theorem fronts_any {w : World} {ao : Option Addr} {c : Nat} {l : List ByteArray} (h : Rs w ao l) (hl : l.length ≤ 1000000) :
    Calls Tryd.prog 24 #[.slice ao l.length c] w fun e w' => ∃ L a' c', e = .returned (.func (.func 50) #[] #[.pointer (some ⟨L, 0, none⟩)]) ∧ KAt w' L a' c' l ∧ w.heap.size ≤ L ∧ (∀ a, a' = some a → w.heap.size ≤ a.block ∧ a.block < w'.heap.size) ∧ Below w.heap.size w w' := by
  have hc := clone_any (c := c) h hl
  go_enter Tryd.func24, Tryd.ntmps24
  go_wp2_with (go_at_call 49; refine hc.mono ?_; rintro e w1 ⟨v, rfl, hO, b1⟩; obtain ⟨a', c', rfl, hr, hb, hn, hcp⟩ := hO.shape)
  go_ret
  have hb2 : Below w1.heap.size w1 (w1.alloc (.cells #[.slice a' l.length c'] 23)) := (Below.refl _ w1).alloc (Nat.le_refl _) _
  refine ⟨w1.heap.size, a', c', rfl, ⟨?_, hr.below hb2, hcp, hn⟩, b1.size, fun a ha => ⟨(hb a ha).1, ?_⟩, b1.trans (hb2.mono b1.size)⟩
  · rw [cell_of_row _ _ 0 _ 23 (0, 0) (heap_alloc_new w1 _)]; rfl
  · have := (hb a ha).2; simp; omega

/-- What a round may turn: blocks of D that were there when it began, and the keys that it was handed. -/
def Turns (D : Nat → Prop) (m : Nat) (v : Value) : Nat → Prop := fun j => (D j ∧ j < m) ∨ v.ownBlock = some j

theorem sliceS_hi {ao : Option Addr} {n c j : Nat} (hj : j ≤ c) (hn : ao = none → c = 0) (w : World) : (Instr.slice 23 (.slice ao n c) none (some (.int .i64 j)) none).run Tryd.prog w = .ok (.slice ao j c) w := by
  have h2 : (0 : Int) ≤ (j : Int) ∧ (j : Int) ≤ (c : Int) := by omega
  by_cases hc : c = 0
  · subst hc
    simp [Instr.slice, Instr.sliceBounds, Instr.sliceBound, asIntOf, run_underlying Tryd.underlying23, go_sem, hj]
  · cases ao with
    | none => exact (hc (hn rfl)).elim
    | some a => simp [Instr.slice, Instr.sliceBounds, Instr.sliceBound, asIntOf, run_underlying Tryd.underlying23, go_sem, hj, hc, Addr.add]

set_option maxRecDepth 100000 in
set_option maxHeartbeats 600000 in
/-- The closure, whatever the rounds do. -/
theorem fronts1_in (l L : Nat) (ao : Option Addr) (c : Nat) (ks : List ByteArray) (hlen : ks.length ≤ 1000000) (D : Nat → Prop) (J : Nat → World → Prop) (Jx : World → Prop)
    (hDL : ¬ D L) (hDa : ∀ a, ao = some a → ¬ D a.block)
    (hY : ∀ k key v W0 W, ks[k]? = some key → J k W0 → Below W0.heap.size W0 W → Os W W0.heap.size v (ks.take k) → YieldAt Fence.wide 4 Tryd.prog l #[v, .string key] W fun e W' =>
      Only (Turns D W0.heap.size v) W W' ∧ ((e = .returned (.bool true) ∧ J (k + 1) W') ∨ (e = .returned (.bool false) ∧ Jx W')))
    (W : World) (hL : KAt W L ao c ks) (h0 : J 0 W) :
    CallsIn Fence.wide 5 Tryd.prog 50 #[.func (.yield l) #[] #[], .pointer (some ⟨L, 0, none⟩)] W fun e W' => (∃ v, e = .returned v) ∧ (J ks.length W' ∨ Jx W') := by
  have hn : 1 ≤ 5 := by omega
  have hbx := hL.box
  obtain ⟨N, hN⟩ : ∃ N, N = ks.length := ⟨_, rfl⟩
  rw [← hN] at hbx hlen ⊢
  have HN := hide hN
  clear hN
  refine callsIn_of_wp Tryd.func50 rfl trivial ?_ rfl
  simp only [Tryd.ntmps50, List.size_toArray, List.length_cons, List.length_nil, Nat.reduceAdd, Nat.reduceSub, Array.replicate_succ, Array.replicate_zero, List.push_toArray, List.append_toArray, List.nil_append, List.cons_append]
  gi_wp2
  gi_loopw [7] (fun i wr => ∃ k : Nat, k ≤ N ∧ i = .int .i64 k ∧ J k wr ∧ KAt wr L ao c ks) (fun i _ => N - (intOf i).toNat)
  case atStart => exact ⟨0, Nat.zero_le _, rfl, h0, hL⟩
  case round =>
    obtain ⟨k, hk, rfl, hJ, hK⟩ := hrel
    by_cases hlt : k < N
    · have d1 : decide (k < N) = true := by simpa using hlt
      have d1' : (k : Int) < (N : Int) := by omega
      obtain ⟨key, hkey⟩ : ∃ key, ks[k]? = some key := ⟨_, List.getElem?_eq_getElem (by rw [← HN.out]; exact hlt)⟩
      obtain ⟨ab, off, rfl, hck⟩ := hK.rs.at hkey
      have hbox := hK.box
      rw [← HN.out] at hbox
      have hcap := hK.cap
      have hsl := fun W' => sliceS_hi (ao := some ⟨ab, off, none⟩) (n := N) (c := c) (j := k) (by have := HN.out; omega) (by simp) W'
      have htl : (ks.take k).length = k := by rw [List.length_take]; have := HN.out; omega
      have hcl := clone_any (c := c) (hK.rs.take k) (by rw [htl]; omega)
      rw [htl] at hcl
      have HJ := hide (And.intro hJ (And.intro hK hkey))
      clear hJ hK hkey hL h0 htl
      gi_wp2_with (refine ⟨trivial, ?_⟩; gi_at_call 49; refine (callsIn_wide.2 hcl).mono ?_; rintro e w2 ⟨v, rfl, hO, b2⟩; obtain ⟨fn, tmps, assign, body, hy, hR⟩ := hY k key v wr w2 HJ.out.2.2 HJ.out.1 b2 hO)
      refine hR.mono ?_
      rintro e W5 ⟨hon, (⟨rfl, hJ5⟩ | ⟨rfl, hJx5⟩)⟩
      · have hnt : ∀ j, j < wr.heap.size → ¬ D j → ¬ Turns D wr.heap.size v j := fun j hj hd e => by
          rcases e with e | e
          · exact hd e.1
          · have := (World.ownsRow.lt hO j e).1; omega
        have hK5 := (HJ.out.2.1.below b2).only hon (hnt L (World.block_lt_of_cell? _ _ HJ.out.2.1.box) hDL) (fun a ha => by
          cases ha
          have := World.block_lt_of_cell? _ _ hck
          exact hnt _ this (hDa _ rfl))
        have HJ5 := hide (And.intro hJ5 hK5)
        clear hJ5 hK5 hR hcl
        gi_wp2
        go_roundw
        case rel => exact ⟨k + 1, by omega, by go_num, HJ5.out.1, HJ5.out.2⟩
        case measure => simp [intOf]; omega
      · gi_wp2
        refine bodyPost_ret (results_none rfl _ _ _) rfl ?_
        exact ⟨⟨_, rfl⟩, .inr hJx5⟩
    · obtain rfl : k = N := by omega
      have d1 : decide (k < k) = false := by simp
      have HJ := hide hJ
      clear hJ hL h0 hK
      gi_wp2
      go_end0
      exact ⟨⟨_, rfl⟩, .inl HJ.out⟩
end Go.Proofs.YtcpigbojebjlaaaDoor
