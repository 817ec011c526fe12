/-
  kinds: Of 19 and the document's 20, valued 29, brings 45, num 12, keys.Text 41 and the document's 44; plainly too.
-/
import Derived.Test.YtkdgageljgfgoaaDoorRows
import Derived.WalkKit
import Derived.WalkSpells
import Derived.WalkLawsBesides
namespace Go.Proofs.YtkdgageljgfgoaaDoor
open Go.RowKit
set_option linter.unusedSimpArgs false

/-- The kind of a Do. -/
def ofD (d : Int) : Int := if d = 1 then 1 else if d = 2 then 2 else if d = 3 then 2 else if d = 4 then 3 else if d = 5 then 4 else if d = 6 then 4 else if d = 7 then 5 else 0
/-- Does a Do bring an element? -/
def bringsD (d : Int) : Bool := d == 2 || d == 4 || d == 5 || d == 7
theorem num_any (n : Int) (w : World) : Calls Tryd.prog 7 #[.int .i64 n] w fun e w' => e = .returned (.int .i64 n) ∧ w' = w := by
  go_enter Tryd.func7, Tryd.ntmps7
  go_wp2
  go_ret
  exact ⟨rfl, rfl⟩
theorem of_any (d : Int) (w : World) : Calls Tryd.prog 38 #[.int .i64 d] w fun e w' => e = .returned (.int .i64 (ofD d)) ∧ w' = w := by
  unfold ofD
  by_cases h1 : d = 1
  · subst h1; go_enter Tryd.func38, Tryd.ntmps38; go_wp2; go_ret; exact ⟨rfl, rfl⟩
  by_cases h2 : d = 2
  · subst h2; go_enter Tryd.func38, Tryd.ntmps38; go_wp2; go_ret; exact ⟨rfl, rfl⟩
  by_cases h3 : d = 3
  · subst h3; go_enter Tryd.func38, Tryd.ntmps38; go_wp2; go_ret; exact ⟨rfl, rfl⟩
  by_cases h4 : d = 4
  · subst h4; go_enter Tryd.func38, Tryd.ntmps38; go_wp2; go_ret; exact ⟨rfl, rfl⟩
  by_cases h5 : d = 5
  · subst h5; go_enter Tryd.func38, Tryd.ntmps38; go_wp2; go_ret; exact ⟨rfl, rfl⟩
  by_cases h6 : d = 6
  · subst h6; go_enter Tryd.func38, Tryd.ntmps38; go_wp2; go_ret; exact ⟨rfl, rfl⟩
  by_cases h7 : d = 7
  · subst h7; go_enter Tryd.func38, Tryd.ntmps38; go_wp2; go_ret; exact ⟨rfl, rfl⟩
  simp only [h1, h2, h3, h4, h5, h6, h7, if_false]
  have e1 : (d == 1) = false := by simpa using h1
  have e2 : (d == 2) = false := by simpa using h2
  have e3 : (d == 3) = false := by simpa using h3
  have e4 : (d == 4) = false := by simpa using h4
  have e5 : (d == 5) = false := by simpa using h5
  have e6 : (d == 6) = false := by simpa using h6
  have e7 : (d == 7) = false := by simpa using h7
  go_enter Tryd.func38, Tryd.ntmps38
  go_wp2
  go_ret
  exact ⟨rfl, rfl⟩
theorem brings_any (d : Int) (w : World) : Calls Tryd.prog 59 #[.int .i64 d] w fun e w' => e = .returned (.bool (bringsD d)) ∧ w' = w := by
  unfold bringsD
  by_cases h2 : d = 2
  · subst h2; go_enter Tryd.func59, Tryd.ntmps59; go_wp2; go_ret; exact ⟨rfl, rfl⟩
  by_cases h4 : d = 4
  · subst h4; go_enter Tryd.func59, Tryd.ntmps59; go_wp2; go_ret; exact ⟨rfl, rfl⟩
  by_cases h5 : d = 5
  · subst h5; go_enter Tryd.func59, Tryd.ntmps59; go_wp2; go_ret; exact ⟨rfl, rfl⟩
  have e2 : (d == 2) = false := by simpa using h2
  have e4 : (d == 4) = false := by simpa using h4
  have e5 : (d == 5) = false := by simpa using h5
  rw [e2, e4, e5]
  go_enter Tryd.func59, Tryd.ntmps59
  go_wp2
  go_ret
  exact ⟨by simp, rfl⟩
/-- Has a kind values? -/
def valuedK (k : Int) : Bool := decide (1 ≤ k) && decide (k ≤ 5)
theorem valued_any (k : Int) (w : World) : Calls Tryd.prog 11 #[.int .i64 k] w fun e w' => e = .returned (.bool (valuedK k)) ∧ w' = w := by
  unfold valuedK
  by_cases h1 : 1 ≤ k
  · have d1 : decide (1 ≤ k) = true := by simpa using h1
    rw [d1]
    go_enter Tryd.func11, Tryd.ntmps11
    go_wp2
    go_ret
    exact ⟨by simp, rfl⟩
  · have d1 : decide (1 ≤ k) = false := by simpa using h1
    rw [d1]
    go_enter Tryd.func11, Tryd.ntmps11
    go_wp2
    go_ret
    exact ⟨rfl, rfl⟩
/-- May it be a text? -/
def textB (s : ByteArray) : Bool := decide ((s.size : Int) ≤ 256)
theorem text_any (s : ByteArray) (w : World) : Calls Tryd.prog 40 #[.string s] w fun e w' => e = .returned (.bool (textB s)) ∧ w' = w := by
  unfold textB
  go_enter Tryd.func40, Tryd.ntmps40
  go_wp2
  go_ret
  exact ⟨by simp, rfl⟩
end Go.Proofs.YtkdgageljgfgoaaDoor
