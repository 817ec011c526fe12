/-
  The law RegisterMaps (7), walked: its maps are built by Put, asked by Get, and what may not be is refused by every call.
  register: the document's Fits (39), the law's texts (82).
-/
import Derived.Test.YtkeldhohilmdcaaGreatRegK
import Derived.Test.YtkeldhohilmdcaaGreatRegM
import Derived.Test.YtkeldhohilmdcaaGreatReg9
import Derived.Test.YtkeldhohilmdcaaGreatRefOK
namespace Go.Proofs.YtkeldhohilmdcaaGreat
open Go.RowKit Go.Shelf
set_option linter.unusedSimpArgs false
attribute [local go_sem] Oper.semAt_some

/-- A slice of pairs of strings. -/
def Rp (w : World) (ao : Option Addr) (l : List Kv) : Prop := ∀ k x, l[k]? = some x → ∃ b off, ao = some ⟨b, off, none⟩ ∧ w.cell? ⟨b, off + k * 2, none⟩ = some (.string x.1) ∧ w.cell? ⟨b, off + k * 2 + 1, none⟩ = some (.string x.2)
theorem Rp.below {w w' : World} {ao : Option Addr} {l : List Kv} (h : Rp w ao l) (hb : Below w.heap.size w w') : Rp w' ao l := fun k x hx => by
  obtain ⟨b, off, e, h1, h2⟩ := h k x hx
  exact ⟨b, off, e, cell_stays h1 hb, cell_stays h2 hb⟩
theorem Ot.form {w : World} {B : Nat} {v : Value} {L : List ByteArray} (h : Ot w B v L) : ∃ ao c, v = .slice ao L.length c := by
  rcases h with ⟨h1, h2⟩
  rcases h2 with ⟨e, e2⟩ | ⟨g, cap, cur, e, -⟩
  · exact ⟨none, 0, by rw [e, e2]⟩
  · exact ⟨_, _, e⟩
end Go.Proofs.YtkeldhohilmdcaaGreat
namespace Go.Proofs.YtkeldhohilmdcaaGreat
open Go.RowKit Go.Shelf
set_option linter.unusedSimpArgs false
attribute [local go_sem] Oper.semAt_some

set_option maxHeartbeats 2000000 in
theorem fits39 (s : St) (x : ByteArray) (w : World) (hs : s.2.2.1.size ≤ 9223372036854775807) : Calls Tryz.prog 43 #[svT s, .string x] w fun e w' => e = .returned (.bool (stV s && txtB x)) ∧ Below w.heap.size w w' := by
  obtain ⟨g, r, l, n, i⟩ := s
  obtain ⟨w0, hw0⟩ : ∃ q, q = w.alloc (.cells #[.int .i64 g, .int .i64 r, .string l, .int .i64 n, .int .i64 i] 43) := ⟨_, rfl⟩
  have m := heap_alloc_new w (.cells #[.int .i64 g, .int .i64 r, .string l, .int .i64 n, .int .i64 i] 43)
  have b0 : Below w.heap.size w (w.alloc (.cells #[.int .i64 g, .int .i64 r, .string l, .int .i64 n, .int .i64 i] 43)) := (Below.refl _ w).alloc (Nat.le_refl _) _
  rw [← hw0] at m b0
  have hst := refStamp_any g r l n i w0 hs
  have htx := fun W => refText_any x W
  have hV : stampV g r l n i = stV (g, r, l, n, i) := rfl
  rw [hV] at hst
  have c0 := (cell_of_row _ _ 0 _ 43 (0, 0) m).trans rfl
  have c1 := (cell_of_row _ _ 1 _ 43 (0, 0) m).trans rfl
  have c2 := (cell_of_row _ _ 2 _ 43 (0, 0) m).trans rfl
  have c3 := (cell_of_row _ _ 3 _ 43 (0, 0) m).trans rfl
  have c4 := (cell_of_row _ _ 4 _ 43 (0, 0) m).trans rfl
  have HB := hide b0
  have HW0 := hide hw0
  dsimp only [svT, sv] at hst ⊢
  generalize stV (g, r, l, n, i) = V at *
  generalize txtB x = TX at *
  clear hV m b0 hw0
  cases V with
  | false =>
    go_enter Tryz.func43, Tryz.ntmps43
    go_upto_region 1 with fail
    rw [← HW0.out]
    go_wp2_with (go_at_call 84; refine hst.mono ?_; rintro e w1 ⟨rfl, b1⟩; replace HB := hide (HB.out.trans (b1.mono HB.out.size)); clear b1; dsimp only)
    go_ret
    exact ⟨rfl, HB.out⟩
  | true =>
    go_enter Tryz.func43, Tryz.ntmps43
    go_upto_region 1 with fail
    rw [← HW0.out]
    go_wp2_with (first
      | (go_at_call 84; refine hst.mono ?_; rintro e w1 ⟨rfl, b1⟩; replace HB := hide (HB.out.trans (b1.mono HB.out.size)); clear b1; dsimp only)
      | (go_at_call 83; refine (htx _).mono ?_; rintro e w2 ⟨rfl, rfl⟩; dsimp only))
    go_ret
    exact ⟨rfl, HB.out⟩
end Go.Proofs.YtkeldhohilmdcaaGreat
