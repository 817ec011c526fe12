/-
  WALKS over a step (does): Turn, and a step of no kind.
-/
import Derived.Test.YtfaceimamipbpaaTwin
import Derived.OwnWalk
namespace Go.Proofs.Ytfaceimamipbpaa
open Go.RowKit
set_option linter.unusedSimpArgs false

/-- What a step leaves. -/
def Did (B : Nat) (w : World) (cap : Int) (beg : St) (log : List Wr) (e : Ending) (w' : World) : Prop :=
  ∃ D' R' log', e = .returned (.tuple #[.pointer (some ⟨D', 0, none⟩), .pointer (some ⟨R', 0, none⟩), .bool true]) ∧ Twin B (fun _ => False) w' D' R' cap beg log' log' ∧ log'.length ≤ log.length + 1 ∧ Below B w w'

theorem Only.belowB {X : Nat → Prop} {B : Nat} {w w' : World} (h : Only X w w') (hX : ∀ k, X k → B ≤ k) (hB : B ≤ w.heap.size) : Below B w w' :=
  ⟨h.os, h.tape, h.output, h.size, fun k hk => h.block k (by omega) (fun q => by have := hX k q; omega)⟩

section
variable {B : Nat} {X : Nat → Prop} {w : World} {D R : Nat} {cap : Int} {beg : St} {log : List Wr}
set_option maxHeartbeats 1000000 in
set_option maxRecDepth 100000 in
theorem does_other (h : Twin B X w D R cap beg log log) (k n : Int) (so : Option Addr) (m sc : Nat) (h1 : k ≠ 1) (h2 : k ≠ 2) (h3 : k ≠ 3) (h4 : k ≠ 4) (h5 : k ≠ 5) :
    Calls Try.prog 12 #[.pointer (some ⟨D, 0, none⟩), .pointer (some ⟨R, 0, none⟩), .agg #[.int .i64 k, .int .i64 n, .slice so m sc]] w (Did B w cap beg log) := by
  have hb0 : Below w.heap.size w (w.alloc (.cells #[.int .i64 k, .int .i64 n, .slice so m sc] 40)) := (Below.refl _ w).alloc (Nat.le_refl _) _
  have H := hide (And.intro h.size (And.intro hb0 (h.free.below hb0)))
  clear h hb0
  go_enter Try.func12, Try.ntmps12
  go_wp2
  go_ret3
  obtain ⟨hs, hb0, t0⟩ := H.out
  exact ⟨D, R, log, rfl, t0, Nat.le_succ _, hb0.mono hs⟩

set_option maxHeartbeats 1000000 in
set_option maxRecDepth 100000 in
theorem does_turn (h : Twin B X w D R cap beg log log) (n : Int) (so : Option Addr) (m sc : Nat) (hlog : log.length < 1000000) :
    Calls Try.prog 12 #[.pointer (some ⟨D, 0, none⟩), .pointer (some ⟨R, 0, none⟩), .agg #[.int .i64 3, .int .i64 n, .slice so m sc]] w (Did B w cap beg log) := by
  have hb0 : Below w.heap.size w (w.alloc (.cells #[.int .i64 3, .int .i64 n, .slice so m sc] 40)) := (Below.refl _ w).alloc (Nat.le_refl _) _
  have H := hide (And.intro h.size (And.intro hb0 (h.free.below hb0)))
  clear h hb0
  go_enter Try.func12, Try.ntmps12
  go_wp2_with (first
    | (go_at_call 15; refine (H.out.2.2.turn (fun _ q => q.elim) hlog).mono ?_; rintro e w2 ⟨rfl, t2, on2⟩; have H2 := hide (And.intro t2 on2); clear t2 on2)
    | (go_at_call 34; refine (H2.out.1.rturn (fun _ q => q.elim) hlog).mono ?_; rintro e w3 ⟨rfl, t3, on3⟩))
  go_ret3
  obtain ⟨hs, hb0, t0⟩ := H.out
  obtain ⟨t2, on2⟩ := H2.out
  exact ⟨D, R, _, rfl, t3, by simp, ((hb0.mono hs).trans (on2.belowB (fun _ q => q.1) t0.size)).trans (on3.belowB (fun _ q => q.1) t2.size)⟩
end
end Go.Proofs.Ytfaceimamipbpaa
