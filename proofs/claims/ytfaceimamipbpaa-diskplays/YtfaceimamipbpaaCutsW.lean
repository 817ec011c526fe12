/-
  THE WALK over the statement DiskCuts.
-/
import Derived.Test.YtfaceimamipbpaaSets
import Derived.Test.YtfaceimamipbpaaNil
namespace Go.Proofs.Ytfaceimamipbpaa
open Go.RowKit Go.Shelf
set_option linter.unusedSimpArgs false
attribute [local go_sem] Oper.semAt_some

/-- The steps of a law, three cells each. -/
structure Stp where
  kind : Int
  n : Int
  data : List Int
def StepsAt (w : World) (so : Option Addr) (T : List Stp) : Prop :=
  (so = none → T = []) ∧ ∀ a, so = some a → ∀ j x, T[j]? = some x → w.cell? (a.add (j * 3)) = some (.int .i64 x.kind) ∧ w.cell? (a.add (j * 3 + 1)) = some (.int .i64 x.n) ∧ ∃ aj cj, w.cell? (a.add (j * 3 + 2)) = some (.slice aj x.data.length cj) ∧ Rd w aj x.data ∧ (aj = none → cj = 0) ∧ U8 x.data ∧ x.data.length ≤ 140737488355328
theorem StepsAt.below {w w' : World} {so : Option Addr} {T : List Stp} (h : StepsAt w so T) (hb : Below w.heap.size w w') : StepsAt w' so T :=
  ⟨h.1, fun a ha j x hx => by
    obtain ⟨h1, h2, aj, cj, h3, h4, h5⟩ := h.2 a ha j x hx
    have hc : ∀ {p : Addr} {v : Value}, w.cell? p = some v → w'.cell? p = some v := fun q => by rw [hb.cell (World.block_lt_of_cell? w _ q)]; exact q
    exact ⟨hc h1, hc h2, aj, cj, hc h3, h4.below hb, h5⟩⟩
theorem StepsAt.at {w : World} {so : Option Addr} {T : List Stp} (h : StepsAt w so T) {k : Nat} {x : Stp} (hx : T[k]? = some x) :
    ∃ g off aj cj, so = some ⟨g, off, none⟩ ∧ w.cell? ⟨g, off + k * 3, none⟩ = some (.int .i64 x.kind) ∧ w.cell? ⟨g, off + k * 3 + 1, none⟩ = some (.int .i64 x.n) ∧ w.cell? ⟨g, off + k * 3 + 2, none⟩ = some (.slice aj x.data.length cj) ∧ Rd w aj x.data ∧ (aj = none → cj = 0) ∧ U8 x.data ∧ x.data.length ≤ 140737488355328 := by
  cases so with
  | none => have := h.1 rfl; subst this; simp at hx
  | some a =>
    obtain ⟨g, off, sp⟩ := a
    have hT : 0 < T.length := by have := (List.getElem?_eq_some_iff.1 hx).1; omega
    obtain ⟨h0, _⟩ := h.2 _ rfl 0 T[0] (List.getElem?_eq_getElem hT)
    simp only [Addr.add, Nat.zero_mul, if_true] at h0
    have hs : sp = none := World.cell?_spot h0
    subst hs
    obtain ⟨h1, h2, aj, cj, h3, h4, h5, h6, h7⟩ := h.2 _ rfl k x hx
    rw [add_lit] at h1 h2 h3
    exact ⟨g, off, aj, cj, rfl, h1, by rw [Nat.add_assoc]; exact h2, by rw [Nat.add_assoc]; exact h3, h4, h5, h6, h7⟩

/-- What DiskCuts lays first. -/
abbrev cutW (w : World) (cap u : Int) (v0 v1 : Value) (n : Int) : World := ((w.alloc (.cells #[.int .i64 cap, .int .i64 u, v0, v1] 24)).alloc (.cells #[.int .i64 n] 3)).alloc (.cells #[.bool false] 4)
theorem cutW_boxes (w : World) (cap u : Int) (v0 v1 : Value) (n : Int) (wr : World) (hb : Below (w.heap.size + 3) (cutW w cap u v0 v1 n) wr) :
    wr.heap[w.heap.size]? = some (.cells #[.int .i64 cap, .int .i64 u, v0, v1] 24 (0, 0)) ∧ wr.cell? ⟨w.heap.size + 1, 0, none⟩ = some (.int .i64 n) ∧ wr.heap[w.heap.size + 1 + 1]? = some (.cells #[.bool false] 4 (0, 0)) := by
  have e1 : (cutW w cap u v0 v1 n).heap[w.heap.size]? = some (.cells #[.int .i64 cap, .int .i64 u, v0, v1] 24) := by
    unfold cutW; rw [Below.heap_alloc _ _ _ (by simp only [World.size_alloc]; omega), Below.heap_alloc _ _ _ (by simp)]; exact heap_alloc_new w _
  have e2 : (cutW w cap u v0 v1 n).heap[w.heap.size + 1]? = some (.cells #[.int .i64 n] 3) := by
    unfold cutW; rw [Below.heap_alloc _ _ _ (by simp)]
    have := heap_alloc_new (w.alloc (.cells #[.int .i64 cap, .int .i64 u, v0, v1] 24)) (.cells #[.int .i64 n] 3)
    simpa using this
  have e3 : (cutW w cap u v0 v1 n).heap[w.heap.size + 1 + 1]? = some (.cells #[.bool false] 4) := by
    unfold cutW
    have := heap_alloc_new ((w.alloc (.cells #[.int .i64 cap, .int .i64 u, v0, v1] 24)).alloc (.cells #[.int .i64 n] 3)) (.cells #[.bool false] 4)
    simpa using this
  refine ⟨(hb.block _ (by omega)).trans e1, ?_, (hb.block _ (by omega)).trans e3⟩
  rw [cell_of_row wr _ 0 _ 3 (0, 0) ((hb.block _ (by omega)).trans e2)]; rfl
theorem blk4 {w : World} {R : Nat} {t : TypeId} {x y z v : Value} (h : w.heap[R]? = some (.cells #[x, y, z, v] t (0, 0))) : w.cell? ⟨R, 0, none⟩ = some x ∧ w.cell? ⟨R, 1, none⟩ = some y ∧ w.cell? ⟨R, 2, none⟩ = some z ∧ w.cell? ⟨R, 3, none⟩ = some v := by
  refine ⟨?_, ?_, ?_, ?_⟩
  · rw [cell_of_row w R 0 _ t (0, 0) h]; rfl
  · rw [cell_of_row w R 1 _ t (0, 0) h]; rfl
  · rw [cell_of_row w R 2 _ t (0, 0) h]; rfl
  · rw [cell_of_row w R 3 _ t (0, 0) h]; rfl

set_option maxHeartbeats 4000000 in
set_option maxRecDepth 100000 in
theorem cuts_no (w : World) (cap u : Int) (x0 x1 so : Option Addr) (c0 c1 ns sc : Nat) (l0 l1 : List Int) (n m : Int) (he : ofE cap u l0 l1 ≠ 0) :
    Calls Try.prog 4 #[.agg #[.int .i64 cap, .int .i64 u, .slice x0 l0.length c0, .slice x1 l1.length c1], .slice so ns sc, .int .i64 n, .int .i64 m] w fun e w' => e = .returned (.bool true) ∧ Below w.heap.size w w' := by
  have hc := of_no cap u x0 x1 c0 c1 l0 l1 (cutW w cap u (.slice x0 l0.length c0) (.slice x1 l1.length c1) n) he
  generalize ofE cap u l0 l1 = q at he hc
  have hne : (q == 0) = false := by simpa using he
  have hnn : (q != 0) = true := by simpa using he
  have hb3 : Below w.heap.size w (cutW w cap u (.slice x0 l0.length c0) (.slice x1 l1.length c1) n) := (((Below.refl _ w).alloc (Nat.le_refl _) _).alloc (by simp) _).alloc (by simp; omega) _
  have hs3 : (cutW w cap u (.slice x0 l0.length c0) (.slice x1 l1.length c1) n).heap.size = w.heap.size + 3 := by simp [cutW]
  have hb4 : Below (w.heap.size + 3) (cutW w cap u (.slice x0 l0.length c0) (.slice x1 l1.length c1) n) ((cutW w cap u (.slice x0 l0.length c0) (.slice x1 l1.length c1) n).alloc (.cells #[.pointer none] 28)) := (Below.refl _ _).alloc (by omega) _
  go_enter Try.func4, Try.ntmps4
  go_wp2_with (first | (go_at_call 8; refine hc.mono ?_; rintro e w1 ⟨rfl, rfl⟩) | (go_at_call 6; refine (known_any _).mono ?_; rintro e w2 ⟨rfl, b2⟩; have HB := hide (hb4.trans (b2.mono (by simp))); have e4 := (cutW_boxes w cap u _ _ n w2 HB.out).2.2; have e5 : w2.cell? ⟨w.heap.size + 1 + 1, 0, none⟩ = some (.bool false) := (by rw [cell_of_row w2 _ 0 _ 4 (0, 0) e4]; rfl); have e6 : w2.frozen? ⟨w.heap.size + 1 + 1, 0, none⟩ = false := frozen_of_row w2 _ 0 _ 4 e4; clear b2))
  have hset := Only.ofGrown (grown_setCell w2 ⟨w.heap.size + 1 + 1, 0, none⟩ (.bool true))
  refine ret_cell (w.heap.size + 1 + 1) (x := true) rfl rfl ?_ rfl ⟨rfl, ?_⟩
  · rw [cell_of_row _ _ 0 _ 4 (0, 0) (heap_setCell_same _ _ _ _ 4 _ e4)]; rfl
  · exact Below.only (hb3.trans (HB.out.mono (by omega))) hset (by have := HB.out.size; omega) (by intro j e; cases e; simp only; omega)

set_option maxHeartbeats 4000000 in
set_option maxRecDepth 100000 in
theorem cuts_long (w : World) (cap u : Int) (x0 x1 so : Option Addr) (c0 c1 ns sc : Nat) (l0 l1 : List Int) (n m : Int) (he : ofE cap u l0 l1 = 0) (hns : 60 < ns) (r0 : Rd w x0 l0) (r1 : Rd w x1 l1) (n0 : x0 = none → c0 = 0) (n1 : x1 = none → c1 = 0) (u0 : U8 l0) (u1 : U8 l1) :
    Calls Try.prog 4 #[.agg #[.int .i64 cap, .int .i64 u, .slice x0 l0.length c0, .slice x1 l1.length c1], .slice so ns sc, .int .i64 n, .int .i64 m] w fun e w' => e = .returned (.bool true) ∧ Below w.heap.size w w' := by
  have hb3 : Below w.heap.size w (cutW w cap u (.slice x0 l0.length c0) (.slice x1 l1.length c1) n) := (((Below.refl _ w).alloc (Nat.le_refl _) _).alloc (by simp) _).alloc (by simp; omega) _
  have hs3 : (cutW w cap u (.slice x0 l0.length c0) (.slice x1 l1.length c1) n).heap.size = w.heap.size + 3 := by simp [cutW]
  have hc := of_yes cap u x0 x1 c0 c1 l0 l1 (cutW w cap u (.slice x0 l0.length c0) (.slice x1 l1.length c1) n) he (r0.below hb3) (r1.below hb3) n0 n1 u0 u1
  have hd : decide (60 < ns) = true := by simpa using hns
  have hdi : decide ((60 : Int) < (ns : Int)) = true := by simp; omega
  clear he r0 r1 n0 n1 u0 u1
  go_enter Try.func4, Try.ntmps4
  go_wp2_with (first | (go_at_call 8; refine hc.mono ?_; rintro e w1 ⟨R, F, G, rfl, _, _, _, b1⟩; have hb4 := (b1.mono (B' := w.heap.size + 3) (by omega)).alloc (by have := b1.size; omega) (.cells #[.pointer (some ⟨R, 0, none⟩)] 28); clear b1) | (go_at_call 6; refine (known_any _).mono ?_; rintro e w2 ⟨rfl, b2⟩; have HB := hide (hb4.trans (b2.mono (by have := hb4.size; omega))); have e4 := (cutW_boxes w cap u _ _ n w2 HB.out).2.2; have e5 : w2.cell? ⟨w.heap.size + 1 + 1, 0, none⟩ = some (.bool false) := (by rw [cell_of_row w2 _ 0 _ 4 (0, 0) e4]; rfl); have e6 : w2.frozen? ⟨w.heap.size + 1 + 1, 0, none⟩ = false := frozen_of_row w2 _ 0 _ 4 e4; clear b2))
  have hset := Only.ofGrown (grown_setCell w2 ⟨w.heap.size + 1 + 1, 0, none⟩ (.bool true))
  refine ret_cell (w.heap.size + 1 + 1) (x := true) rfl rfl ?_ rfl ⟨rfl, ?_⟩
  · rw [cell_of_row _ _ 0 _ 4 (0, 0) (heap_setCell_same _ _ _ _ 4 _ e4)]; rfl
  · exact Below.only (hb3.trans (HB.out.mono (by omega))) hset (by have := HB.out.size; omega) (by intro j e; cases e; simp only; omega)
end Go.Proofs.Ytfaceimamipbpaa
