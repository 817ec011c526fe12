/-
  WHAT MapMakes ASKS OF Of, Join AND Make.
-/
import Derived.Test.YtleaaoknjflgoaaMakesT
import Derived.Test.YtleaaoknjflgoaaMake
namespace Go.Proofs.Ytleaaoknjflgoaa
open Go.RowKit Go.Shelf
set_option linter.unusedSimpArgs false

/-- Of, where each key is there once and has its value. -/
theorem of_good (ks : List ByteArray) (vs : List Int) (kv vv : Value) (w : World) (hk : Cs w kv (ks.map .string)) (hv : Cs w vv (vs.map (.int .i64))) (hl : ks.length ≤ 100000) (he : ks.length = vs.length) (hn : ks.Nodup) :
    Calls Try.prog 21 #[kv, vv] w fun e w' => ∃ t, e = .returned (.tuple #[mv t, .int .i64 0]) ∧ In w' t ∧ t.bal ∧ Srt t.list ∧ (∀ l, PutsI ks vs ks.length l → t.list = l) ∧ Below w.heap.size w w' := by
  refine (of_any ks vs kv vv w hk hv hl).mono ?_
  rintro e w' ⟨hb, ⟨_, h⟩ | ⟨t, p, he', _, hp, hlist, hs, hbal, hi⟩⟩
  · rcases h with h | h
    · exact (h he).elim
    · exact (h hn).elim
  · exact ⟨t, he', hi, hbal, hs, fun l hI => hI.same hp hlist hs, hb⟩
/-- Of, where not. -/
theorem of_bad (ks : List ByteArray) (vs : List Int) (kv vv : Value) (w : World) (hk : Cs w kv (ks.map .string)) (hv : Cs w vv (vs.map (.int .i64))) (hl : ks.length ≤ 100000) (hb : ¬ (ks.length = vs.length ∧ ks.Nodup)) :
    Calls Try.prog 21 #[kv, vv] w fun e w' => e = .returned (.tuple #[.agg #[.pointer none], .int .i64 2]) ∧ Below w.heap.size w w' := by
  refine (of_any ks vs kv vv w hk hv hl).mono ?_
  rintro e w' ⟨hbel, ⟨h, _⟩ | ⟨t, p, _, he, hp, hlist, hs, _, _⟩⟩
  · exact ⟨h, hbel⟩
  · refine (hb ⟨he, ?_⟩).elim
    have hI : PutsI ks vs ks.length t.list := ⟨hs, by rw [hlist]; exact hp.map _⟩
    exact hI.once
/-- What lies in order, with a key that fits between. -/
theorem fits_srt {l r : T} {k : ByteArray} {v : Int} (hl : Srt l.list) (hr : Srt r.list) (hf : fitsB l k r = true) : Srt (l.list ++ (k, v) :: r.list) := by
  obtain ⟨h1, h2⟩ := (fits_is hl hr).1 hf
  exact Srt.app.2 ⟨hl, hr, h1, h2⟩
theorem join_good {B : Nat} {k : ByteArray} {v : Int} {l r t : T} (h : Joined B k v l r t) (bl : l.bal) (br : r.bal) (hl : Srt l.list) (hr : Srt r.list) (hf : fitsB l k r = true) : t.bal ∧ Srt t.list ∧ t.list = l.list ++ (k, v) :: r.list :=
  ⟨(h.says bl br).bal, by rw [h.list]; exact fits_srt hl hr hf, h.list⟩
theorem make_good {p : Nat} {k : ByteArray} {v : Int} {l r : T} (bl : l.bal) (br : r.bal) (hl : Srt l.list) (hr : Srt r.list) (hf : makesB l k r = true) : (T.node p k v l r).bal ∧ Srt (T.node p k v l r).list ∧ (T.node p k v l r).list = l.list ++ (k, v) :: r.list := by
  unfold makesB at hf
  simp only [Bool.and_eq_true, decide_eq_true_eq] at hf
  exact ⟨⟨hf.1.2, hf.2, bl, br⟩, fits_srt hl hr hf.1.1, rfl⟩
/-- Whether a key fits, by the two lists. -/
theorem fits_lists {l r : T} {k : ByteArray} : fitsB l k r = ((match l.list.getLast? with | some x => Op.bytesLess x.1.toList k.toList | none => true) && (match r.list.head? with | some x => Op.bytesLess k.toList x.1.toList | none => true)) := by
  unfold fitsB
  congr 1
  · by_cases e : l = .nil
    · subst e; simp [T.list]
    · obtain ⟨_, lk, lv, _, lrest, l1, l2, _⟩ := T.last_spec e
      rw [l1, l2, decide_eq_false e, Bool.false_or]
      simp only [List.getLast?_append, List.getLast?_singleton, Option.some_or, T.key]
      rw [less_B]
      exact decide_eq_decide.2 Iff.rfl
  · by_cases e : r = .nil
    · subst e; simp [T.list]
    · obtain ⟨_, fk, fv, _, frest, f1, f2, _⟩ := T.first_spec e
      rw [f1, f2, decide_eq_false e, Bool.false_or]
      simp only [List.head?_cons, T.key]
      rw [less_B]
      exact decide_eq_decide.2 Iff.rfl
end Go.Proofs.Ytleaaoknjflgoaa
