/-
  HOW MANY KEYS A MAP HAS, BY WHICH KEYS IT HAS (plain).
-/
import Derived.Test.YtckkoigghkgfdaaSelf
namespace Go.Proofs.Ytckkoigghkgfdaa
open Go.RowKit Go.Shelf
set_option linter.unusedSimpArgs false

theorem look_true {k : ByteArray} : ∀ {l : List (ByteArray × Int)}, (look k l).2 = true ↔ k ∈ l.map (·.1)
  | [] => by simp [look]
  | x :: l => by
    by_cases e : x.1 = k
    · simp [look, e]
    · rw [look, if_neg e, look_true]
      simp only [List.map_cons, List.mem_cons]
      exact ⟨fun h => .inr h, fun h => h.elim (fun h => (e h.symm).elim) id⟩
theorem keys_nodup {l : List (ByteArray × Int)} (h : Srt l) : (l.map (·.1)).Nodup := by
  refine List.pairwise_map.2 (List.Pairwise.imp ?_ h)
  intro a b hab
  exact cmp_ne hab
/-- A map whose keys are those of a list that has each once. -/
theorem n_of {t : T} (hs : Srt t.list) {D : List ByteArray} (hd : D.Nodup) (hm : ∀ k, k ∈ D ↔ (look k t.list).2 = true) : t.n = D.length := by
  have hp : (t.list.map (·.1)).Perm D := (List.perm_ext_iff_of_nodup (keys_nodup hs) hd).2 (fun k => by rw [hm k, look_true])
  have := hp.length_eq
  rw [List.length_map, T.n_eq] at this
  exact this
/-- Keys counted, each where it stands first. -/
structure Counted (P : ByteArray → Bool) (l : List ByteArray) (n : Nat) : Prop where
  ex : ∃ D : List ByteArray, D.Nodup ∧ (∀ k, k ∈ D ↔ k ∈ l ∧ P k = true) ∧ n = D.length
theorem Counted.none (P : ByteArray → Bool) : Counted P [] 0 := ⟨[], List.nodup_nil, by simp, rfl⟩
theorem Counted.more {P : ByteArray → Bool} {l : List ByteArray} {n : Nat} (h : Counted P l n) {k : ByteArray} (hk : P k = true ∧ k ∉ l) : Counted P (l ++ [k]) (n + 1) := by
  obtain ⟨D, h1, h2, h3⟩ := h.ex
  refine ⟨k :: D, List.nodup_cons.2 ⟨fun hm => hk.2 ((h2 k).1 hm).1, h1⟩, fun j => ?_, by rw [h3]; rfl⟩
  simp only [List.mem_cons, List.mem_append, List.not_mem_nil, or_false, h2]
  constructor
  · rintro (rfl | ⟨a, b⟩)
    · exact ⟨.inr rfl, hk.1⟩
    · exact ⟨.inl a, b⟩
  · rintro ⟨a | rfl, b⟩
    · exact .inr ⟨a, b⟩
    · exact .inl rfl
theorem Counted.same {P : ByteArray → Bool} {l : List ByteArray} {n : Nat} (h : Counted P l n) {k : ByteArray} (hk : ¬ (P k = true ∧ k ∉ l)) : Counted P (l ++ [k]) n := by
  obtain ⟨D, h1, h2, h3⟩ := h.ex
  refine ⟨D, h1, fun j => ?_, h3⟩
  simp only [List.mem_cons, List.mem_append, List.not_mem_nil, or_false, h2]
  constructor
  · rintro ⟨a, b⟩
    exact ⟨.inl a, b⟩
  · rintro ⟨a | rfl, b⟩
    · exact ⟨a, b⟩
    · refine ⟨Classical.byContradiction fun hj => hk ⟨b, hj⟩, b⟩
/-- As many as a map has keys. -/
theorem Counted.n {P : ByteArray → Bool} {l : List ByteArray} {n : Nat} (h : Counted P l n) {t : T} (hs : Srt t.list) (hm : ∀ k, (look k t.list).2 = true ↔ k ∈ l ∧ P k = true) : t.n = n := by
  obtain ⟨D, h1, h2, h3⟩ := h.ex
  rw [h3]
  exact n_of hs h1 (fun k => (h2 k).trans (hm k).symm)
end Go.Proofs.Ytckkoigghkgfdaa
