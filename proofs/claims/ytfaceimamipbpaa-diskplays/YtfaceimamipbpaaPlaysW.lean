/-
  The walk of DiskPlays, given what 'stands' answers where both disks are there.
-/
import Derived.Test.YtfaceimamipbpaaPlaysY
namespace Go.Proofs.Ytfaceimamipbpaa
open Go.RowKit
set_option linter.unusedSimpArgs false

section
variable {w : World} {cap u : Int} {x0 x1 so : Option Addr} {c0 c1 sc : Nat} {l0 l1 : List Int} {T : List Stp} {leave : Int}
set_option maxHeartbeats 1000000 in
set_option maxRecDepth 100000 in
theorem plays_long (hns : 60 < T.length) :
    Calls Try.prog 3 #[.agg #[.int .i64 cap, .int .i64 u, .slice x0 l0.length c0, .slice x1 l1.length c1], .slice so T.length sc, .int .i64 leave] w fun e w' => e = .returned (.bool true) ∧ Below w.heap.size w w' := by
  have HW : Hid (Below w.heap.size w (W0 w cap u x0 x1 c0 c1 l0 l1)) := hide ((Below.refl _ w).alloc (Nat.le_refl _) _)
  have hd0 : decide ((60 : Int) < (T.length : Int)) = true := by simp; omega
  have hd1 : decide (60 < T.length) = true := by simp; omega
  go_enter Try.func3, Try.ntmps3
  go_wp2_with (go_at_call 6; refine (known_any _).mono ?_; rintro e w6 ⟨rfl, b6⟩)
  go_ret
  exact ⟨rfl, HW.out.trans (b6.mono HW.out.size)⟩
theorem plays_walk (hst : Stands) (r0 : Rd w x0 l0) (r1 : Rd w x1 l1) (n0 : x0 = none → c0 = 0) (n1 : x1 = none → c1 = 0) (u0 : U8 l0) (u1 : U8 l1) (hl0 : l0.length ≤ 140737488351232) (hl1 : l1.length ≤ 140737488351232) (hT : StepsAt w so T) (hTl : ∀ x ∈ T, x.data.length ≤ 140737488351232) :
    Calls Try.prog 3 #[.agg #[.int .i64 cap, .int .i64 u, .slice x0 l0.length c0, .slice x1 l1.length c1], .slice so T.length sc, .int .i64 leave] w fun e w' => e = .returned (.bool true) ∧ Below w.heap.size w w' := by
  by_cases hns : T.length ≤ 60
  · by_cases he : ofE cap u l0 l1 = 0
    · exact plays_yes hst he hns r0 r1 n0 n1 u0 u1 hl0 hl1 hT hTl
    · exact plays_no he hns r0 r1 n0 n1 hl0 hl1 hT hTl
  · exact plays_long (by omega)
end
end Go.Proofs.Ytfaceimamipbpaa
