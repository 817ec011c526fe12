/-
  What 'stands' needs ahead of its walk: a range over All that may be left by a break; what is read of the document's log.
-/
import Derived.Test.YtfaceimamipbpaaPlaysY
import Derived.Test.YtfaceimamipbpaaCutsM
namespace Go.Proofs.Ytfaceimamipbpaa
open Go.RowKit Go.Shelf
set_option linter.unusedSimpArgs false

/-- 'for i, w := range d.All() { .. break .. }': both ways out go on alike. -/
theorem range_break {a : Act} {w : World} {Q : Exit → Act → World → Prop} {g : Operand} {ps : Array Tmp} {assign body : Code} (id : Nat) (L : Nat) (vl : Value) (G : Nat → Prop) (log : List Wr) (xs : List Value)
    (hg : a.eval g = .func (.func 38) #[] #[.pointer (some ⟨L, 0, none⟩)]) (hps : ps.size = 2) (hL : LogAt w L vl G log xs) (hlen : ∀ x ∈ log, x.data.length ≤ 140737488355328) (hll : log.length ≤ 1000000)
    (D : Nat → Prop) (hDL : ¬ D L) (hD0 : ¬ D w.heap.size) (hD1 : ¬ D (w.heap.size + 1)) (hDv : ∀ j, vl.ownBlock = some j → ¬ D j) (hDG : Apart D G) (hGu : Under G w.heap.size)
    (I : Nat → World → Prop) (Ix J : World → Prop) (hI : ∀ k W W', I k W → Only (fun j => j = w.heap.size + 1) W W' → I k W') (hIx : ∀ W W', Ix W → Only (fun j => j = w.heap.size + 1) W W' → Ix W') (h0 : I 0 w)
    (hround : ∀ k x ao c W0 W, log[k]? = some x → I k W0 → Below W0.heap.size W0 W → Handed W0.heap.size W x ao c → w.heap.size + 1 < W0.heap.size →
      assign.wpIn (Fence.wide.inRound (w.heap.size + 1)) 4 Try.prog (Exit.then (fun a1 W1 => Only D W W1 ∧ ∀ W2, Only (fun j => j = w.heap.size + 1) W1 W2 → body.wpIn (Fence.wide.inRound (w.heap.size + 1)) 4 Try.prog (rpost D I (fun cd W => cd = .exit id ∧ Ix W) W2 (k + 1)) a1 W2) (fun _ _ _ => False))
        { tmps := (ps.zip #[.int .i64 (k : Int), .agg #[.int .i64 x.kind, .int .i64 x.area, .slice ao x.data.length c]]).foldl (fun t (p, v) => t.setIfInBounds p v) a.tmps, defers := [] } W)
    (hQ : ∀ a W, Q .normal a W → Q (.exit id) a W) (hJ1 : ∀ W, I log.length W → J W) (hJ2 : ∀ W, Ix W → J W)
    (hdone : ∀ W, J W → w.heap.size < W.heap.size → W.heap[w.heap.size]? = some (.deferred (some [])) → Q .normal { a with defers := { target := .collected w.heap.size, args := #[] } :: a.defers } W) :
    (Code.rangeFunc g ps assign body).wp Try.prog Q a w := by
  refine range_log (Q := Q) L vl G log xs hg hps hL hlen hll D hDL hD0 hD1 hDv hDG hGu I (fun cd W => cd = .exit id ∧ Ix W) hI (fun c W W' h k => ⟨h.1, hIx W W' h.2 k⟩) h0 hround ?_ ?_
  · intro W hi hs hK
    exact hdone W (hJ1 W hi) hs hK
  · rintro c W ⟨rfl, hi⟩ hs hK
    exact wp_exit (hQ _ _ (hdone W (hJ2 W hi) hs hK))

/-- The document's log, as it is read. -/
structure Seen (w : World) (R : Nat) (log : List Wr) (lo : Option Addr) (lc : Nat) : Prop where
  box : w.cell? ⟨R, 7, none⟩ = some (.slice lo log.length lc)
  item : ∀ (k : Nat) (x : Wr), log[k]? = some x → ∃ g ao c, lo = some ⟨g, 0, none⟩ ∧ w.cell? ⟨g, k * 3, none⟩ = some (.int .i64 x.kind) ∧ w.cell? ⟨g, k * 3 + 1, none⟩ = some (.int .i64 x.area) ∧ w.cell? ⟨g, k * 3 + 2, none⟩ = some (.slice ao x.data.length c) ∧ Rd w ao x.data
theorem RD.seen {F G : Nat → Prop} {w : World} {R : Nat} {cap : Int} {beg : St} {log : List Wr} (h : RD F G w R cap beg log) : ∃ lo lc, Seen w R log lo lc := by
  obtain ⟨_, _, _, _, _, _, vl, xs, _, _, _, _, _, _, _, j7, _, _, _, _, jl, ji⟩ := h.look
  obtain ⟨lo, lc, rfl, hlo, _⟩ := row_form jl
  refine ⟨lo, lc, j7, fun k x hx => ?_⟩
  obtain ⟨ao, c, i1, i2, i3, hG⟩ := ji.at hx
  have hk : k < log.length := (List.getElem?_eq_some_iff.1 hx).1
  cases lo with
  | none =>
    exfalso
    rcases jl.2 with ⟨_, q⟩ | ⟨_, _, _, q, _⟩
    · omega
    · simp at q
  | some a =>
    obtain ⟨g, rfl⟩ := hlo _ rfl
    have j1 := World.ownsRow.cells jl (g := g) rfl _ _ i1
    have j2 := World.ownsRow.cells jl (g := g) rfl _ _ i2
    have j3 := World.ownsRow.cells jl (g := g) rfl _ _ i3
    rw [add_lit, Nat.zero_add, Nat.mul_comm] at j1 j2 j3
    exact ⟨g, ao, c, rfl, j1, j2, j3, hG.rd⟩
theorem Seen.below {w w' : World} {R : Nat} {log : List Wr} {lo : Option Addr} {lc : Nat} (h : Seen w R log lo lc) (k : Below w.heap.size w w') : Seen w' R log lo lc := by
  refine ⟨(k.cell (World.block_lt_of_cell? _ _ h.box)).trans h.box, fun i x hx => ?_⟩
  obtain ⟨g, ao, c, h1, h2, h3, h4, h5⟩ := h.item i x hx
  exact ⟨g, ao, c, h1, (k.cell (World.block_lt_of_cell? _ _ h2)).trans h2, (k.cell (World.block_lt_of_cell? _ _ h3)).trans h3, (k.cell (World.block_lt_of_cell? _ _ h4)).trans h4, h5.below k⟩

/-- Behind k rounds of a turn: the count's box stands at N, ahead of which nothing has turned. -/
def TurnI (wN : World) (N : Nat) (k : Nat) (W : World) : Prop := Below N wN W ∧ W.heap[N]? = some (.cells #[.int .i64 (k : Int)] 3 (0, 0))
theorem TurnI.size {wN W : World} {N k : Nat} (h : TurnI wN N k W) : N < W.heap.size := (Array.getElem?_eq_some_iff.1 h.2).1
theorem TurnI.cell {wN W : World} {N k : Nat} (h : TurnI wN N k W) : W.cell? ⟨N, 0, none⟩ = some (.int .i64 (k : Int)) ∧ W.frozen? ⟨N, 0, none⟩ = false := ⟨by rw [cell_of_row _ _ 0 _ 3 (0, 0) h.2]; rfl, frozen_of_row _ _ 0 _ 3 h.2⟩
theorem TurnI.only {wN W W' : World} {N k : Nat} {Y : Nat → Prop} (h : TurnI wN N k W) (hY : ∀ j, Y j → N < j) (ho : Only Y W W') : TurnI wN N k W' :=
  ⟨Below.only h.1 ho (Nat.le_of_lt h.size) (fun j e => Nat.le_of_lt (hY j e)), (ho.block _ h.size (fun e => Nat.lt_irrefl _ (hY _ e))).trans h.2⟩
theorem TurnI.below {wN W W' : World} {N k : Nat} (h : TurnI wN N k W) (hb : Below W.heap.size W W') : TurnI wN N k W' := h.only (Y := fun _ => False) (fun _ e => e.elim) (Only.ofBelow hb)
theorem TurnI.count {wN W : World} {N k : Nat} (h : TurnI wN N k W) : TurnI wN N (k + 1) (W.setCell ⟨N, 0, none⟩ (.int .i64 ((k : Int) + 1))) := by
  refine ⟨Below.only h.1 (Only.ofGrown (grown_setCell W ⟨N, 0, none⟩ _)) (Nat.le_of_lt h.size) (fun j e => by cases e; exact Nat.le_refl _), ?_⟩
  rw [heap_setCell_same _ _ _ _ 3 _ h.2]
  simp
/-- What a round may turn: the count's box, and what is new. -/
def TurnD (N : Nat) : Nat → Prop := fun j => j = N ∨ N + 3 ≤ j
/-- A round's end. -/
theorem turn_end {wN W2 W3 W4 W7 : World} {N k : Nat} {Y : Nat → Prop} (b3 : Below W2.heap.size W2 W3) (hon : Only Y W3 W4) (hY : ∀ j, Y j → N + 3 ≤ j) (b7 : Below W4.heap.size W4 W7) (h7 : TurnI wN N k W7) :
    Only (TurnD N) W2 (W7.setCell ⟨N, 0, none⟩ (.int .i64 ((k : Int) + 1))) ∧ TurnI wN N (k + 1) (W7.setCell ⟨N, 0, none⟩ (.int .i64 ((k : Int) + 1))) := by
  refine ⟨?_, h7.count⟩
  have o1 : Only (TurnD N) W2 W3 := (Only.ofBelow b3).mono (fun _ _ d => d.elim)
  have o2 : Only (TurnD N) W2 W4 := o1.trans hon (fun j _ hj => .inr (hY j hj))
  have o3 : Only (TurnD N) W2 W7 := o2.trans (Only.ofBelow b7) (fun _ _ d => d.elim)
  exact o3.trans (Only.ofGrown (grown_setCell W7 ⟨N, 0, none⟩ _)) (fun j _ e => by cases e; exact .inl rfl)
end Go.Proofs.Ytfaceimamipbpaa
