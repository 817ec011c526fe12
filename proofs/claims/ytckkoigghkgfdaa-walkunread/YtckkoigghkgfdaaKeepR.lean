/-
  walk: THE ELEMENTS' RULE MAY BE ASKED, AND IS FAIR WHERE VALUES ARE TOLD BY THEIR KEYS.
-/
import Derived.Test.YtckkoigghkgfdaaRun18
namespace Go.Proofs.Ytckkoigghkgfdaa
open Go.RowKit Go.Shelf
set_option linter.unusedSimpArgs false

/-- Values are told by their keys. -/
def Told (fv : ByteArray → Int) (k : ByteArray) (p : Int × Bool) : Prop := p = (0, false) ∨ p = (fv k, true)
theorem keeps_fair (fv : ByteArray → Int) : Fair (Told fv) (fun _ p q r => keeps p q r) := by
  refine ⟨fun k => .inl rfl, fun k p q hp hq => ?_, fun k p r hp hr => ?_, fun k p q hp hq => ?_, fun k p q r h => ?_⟩
  · rcases hp with rfl | rfl <;> rcases hq with rfl | rfl <;> simp [keeps]
  · rcases hp with rfl | rfl <;> rcases hr with rfl | rfl <;> simp [keeps]
  · rcases hp with rfl | rfl <;> rcases hq with rfl | rfl <;> simp [keeps]
  · unfold keeps at h ⊢
    split
    · rename_i h1; simp [h1] at h
    · split
      · rename_i h1 h2; simp [h1, h2] at h
      · rfl
/-- Keep may be asked. -/
theorem keep_ok (B Tk : Nat) : RuleOk B Tk 14 #[] (fun _ p q r => keeps p q r) (fun _ _ => True) := by
  refine ⟨fun args W => rfl, fun W ks k p q r hB _ => ?_, fun _ _ _ _ _ => trivial⟩
  refine (keep_any k p q r W).mono ?_
  rintro e w' ⟨rfl, hb⟩
  exact ⟨rfl, trivial, Goes.of hb hB, fun o ho => (hb.block _ (Array.getElem?_eq_some_iff.1 ho).1).trans ho⟩
/-- Run by the elements' rule. -/
theorem runKeep_any (fv : ByteArray → Int) (o a b : T) (w : World) (ht : Trio (Told fv) w o a b) :
    Calls Try.prog 18 #[mv o, mv a, mv b, .func (.func 14) #[] #[]] w fun e w' => ∃ t ks, e = .returned (.tuple #[mv t, .agg #[.int .i64 (ks.length : Nat), .int .i64 (ks.length : Nat), .int .i64 (madeIn [o, a, b] t : Nat)], .int .i64 0]) ∧ Runs w.heap.size (fun _ p q r => keeps p q r) o a b t ks ∧ In w' t ∧ RunSays (fun _ p q r => keeps p q r) o a b t ks ∧ Below w.heap.size w w' := by
  refine (walkRun_any (B := w.heap.size) (J := fun _ _ => True) (keeps_fair fv) o a b w [] (fun Tk _ => keep_ok _ Tk) (Nat.le_refl _) ht trivial).mono ?_
  rintro e w' ⟨t, ks, he, hr, it, _, hb⟩
  exact ⟨t, ks, he, hr, it, hr.says (keeps_fair fv) ht.so ht.sa ht.sb ht.bo ht.ba ht.bb ht.vo ht.va ht.vb, hb⟩
end Go.Proofs.Ytckkoigghkgfdaa
