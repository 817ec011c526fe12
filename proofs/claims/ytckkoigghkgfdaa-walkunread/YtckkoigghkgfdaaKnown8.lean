/-
  known 8 ANSWERS TRUE.
-/
import Derived.Test.YtckkoigghkgfdaaKnownW
import Derived.Test.YtckkoigghkgfdaaOf
namespace Go.Proofs.Ytckkoigghkgfdaa
open Go.RowKit Go.Shelf
set_option linter.unusedSimpArgs false

theorem cs_new (w : World) (l : List Value) (ty : TypeId) : Cs (w.alloc (.cells l.toArray ty)) (.slice (some ⟨w.heap.size, 0, none⟩) l.length l.length) l := ⟨_, _, rfl, Nat.le_refl _, fun j u hj => ⟨_, _, rfl, by
  rw [Nat.zero_add, cell_of_row _ _ j _ ty (0, 0) (heap_alloc_new w _)]
  simpa using hj⟩⟩
theorem of_ok : OfOk := fun W => by
  have h1 := cs_new W [.string kA, .string kB] 9
  have h2 := cs_new (W.alloc (.cells [Value.string kA, .string kB].toArray 9)) [.int .i64 1, .int .i64 1] 3
  have hb0 : Below W.heap.size W (W.alloc (.cells [Value.string kA, .string kB].toArray 9)) := (Below.refl _ W).alloc (Nat.le_refl _) _
  have hb1 : Below (W.alloc (.cells [Value.string kA, .string kB].toArray 9)).heap.size (W.alloc (.cells [Value.string kA, .string kB].toArray 9)) _ := (Below.refl _ _).alloc (Nat.le_refl _) (.cells [Value.int .i64 1, .int .i64 1].toArray 3)
  have h := of_any [kA, kB] [1, 1] _ _ _ (h1.below hb1) h2 (by decide)
  have hs : (W.alloc (.cells [Value.string kA, .string kB].toArray 9)).heap.size = W.heap.size + 1 := by simp
  rw [hs] at h
  refine Calls.mono h ?_
  rintro e w' ⟨hb, ⟨_, h⟩ | ⟨t, p, he, _, hp, hl, hs, hbal, hi⟩⟩
  · rcases h with h | h
    · exact absurd rfl h
    · exact absurd (by decide) h
  · have h1 : (p.map (ent [kA, kB] [1, 1])).Perm ((List.range 2).map (ent [kA, kB] [1, 1])) := hp.map _
    have h2 : ((List.range 2).map (ent [kA, kB] [1, 1])) = l2 := by decide
    rw [h2, ← hl] at h1
    obtain ⟨x, hx⟩ := t.ptr_shape
    refine ⟨x, t, by rw [he, mv_ptr hx], ⟨hx, hi, srt_same hs srt2 h1, hbal⟩, ?_⟩
    have hb2 := hb0.trans (hb1.mono hb0.size)
    exact hb2.trans (hb.mono hb2.size)
theorem known_any (w : World) : Calls Try.prog 8 #[] w fun e w' => e = .returned (.bool true) ∧ Below w.heap.size w w' := known_of of_ok w
end Go.Proofs.Ytckkoigghkgfdaa
