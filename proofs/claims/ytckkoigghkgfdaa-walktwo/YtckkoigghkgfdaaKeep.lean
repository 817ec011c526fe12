/-
  walk: THE ELEMENTS' RULE: Keep 14.
-/
import Derived.Test.YtckkoigghkgfdaaCut
namespace Go.Proofs.Ytckkoigghkgfdaa
open Go.RowKit Go.Shelf
set_option linter.unusedSimpArgs false

/-- What a map has under a key. -/
def pv (p : Int × Bool) : Value := .agg #[.int .i64 p.1, .bool p.2]
/-- The elements' rule: does a key stay, and with what? -/
def keeps (p q r : Int × Bool) : Int × Bool := if q.2 && (r.2 || !p.2) then (q.1, true) else if r.2 && !p.2 then (r.1, true) else (0, false)
set_option maxHeartbeats 2000000 in
theorem keep_any (k : ByteArray) (p q r : Int × Bool) (w : World) : Calls Try.prog 14 #[.string k, pv p, pv q, pv r] w fun e w' => e = .returned (.tuple #[.int .i64 (keeps p q r).1, .bool (keeps p q r).2]) ∧ Below w.heap.size w w' := by
  obtain ⟨p1, p2⟩ := p
  obtain ⟨q1, q2⟩ := q
  obtain ⟨r1, r2⟩ := r
  have hb : Below w.heap.size w (((w.alloc (.cells #[.int .i64 p1, .bool p2] 38)).alloc (.cells #[.int .i64 q1, .bool q2] 38)).alloc (.cells #[.int .i64 r1, .bool r2] 38)) := (new3 w _ _ _).2.2.2
  unfold pv
  have HB := hide hb
  clear hb
  cases p2 <;> cases q2 <;> cases r2 <;> (go_enter Try.func14, Try.ntmps14; go_wp2; go_ret2; exact ⟨rfl, HB.out⟩)
end Go.Proofs.Ytckkoigghkgfdaa
