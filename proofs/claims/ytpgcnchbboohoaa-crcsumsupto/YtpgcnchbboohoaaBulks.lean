/-
  WHAT THE BOUND OF THE SECOND FORM GIVES, and how a slice of slices of bytes is opened.
-/
import Derived.Test.YtpgcnchbboohoaaOpens
import Derived.Deep.Slices
namespace Go.Proofs.Ytpgcnchbboohoaa
open Go.ChangeShapes Go.WideShapes Go.ChangeAt Go.RowKit

theorem bulk_pos {H : Type} (d : DataW H) : 0 < Rows.uptoBulk d := by
  cases d with
  | lit l => cases l <;> simp [Rows.uptoBulk]
  | _ => simp [Rows.uptoBulk]
theorem bulk_count {H : Type} : ∀ l : List (DataW H), l.length ≤ Rows.uptoBulkAll l
  | [] => by simp [Rows.uptoBulkAll]
  | d :: r => by
    have h1 := bulk_pos d
    have h2 := bulk_count r
    simp only [Rows.uptoBulkAll, List.length_cons]
    omega

/-- A slice's capacity is below what its reading bulks. -/
theorem bulk_slice {H : Type} {d : DataW H} {cap : Nat} (h : d = .nil ∧ cap = 0 ∨ ∃ elems spare, d = .slice elems spare ∧ cap = elems.length + spare.length) : cap ≤ Rows.uptoBulk d := by
  rcases h with ⟨_, rfl⟩ | ⟨elems, spare, rfl, rfl⟩
  · omega
  · have h1 := bulk_count elems
    have h2 := bulk_count spare
    simp only [Rows.uptoBulk]
    omega

theorem bulk_flat {H : Type} (f : Nat → List Int) (D : Nat → DataW H) : ∀ l : List Nat, (∀ i ∈ l, (f i).length ≤ Rows.uptoBulk (D i)) → ((l.map f).flatten).length ≤ Rows.uptoBulkAll (l.map D)
  | [], _ => by simp [Rows.uptoBulkAll]
  | i :: r, h => by
    have h1 := h i (by simp)
    have h2 := bulk_flat f D r (fun j hj => h j (by simp [hj]))
    simp only [List.map_cons, List.flatten_cons, List.length_append, Rows.uptoBulkAll]
    omega

/-- A slice of slices of bytes that came in. -/
theorem open_pieces {H : Type} {enc : TypeId × Value → H} {W : World} {fuel : Nat} {v : Value} {x : DataW H × List MemPlace} (h : DataW.trod enc Try.prog W 0 (fun _ => true) true fuel 22 [v] = some x) :
    ∃ lo cap L, v = .slice lo L.length cap ∧ Pieces W lo L ∧ (∀ l ∈ L, U8 l) ∧ L.length ≤ Rows.uptoBulk x.1 ∧ L.flatten.length ≤ Rows.uptoBulk x.1 := by
  rcases Deep.open_slice1 Try.underlying22 Try.cells24 h with ⟨hcs, hx⟩ | ⟨a, len, cap, m, n, V, D, Pl, hcs, _, hl, hm, hmm, hx, hel⟩
  · simp only [List.cons.injEq, and_true] at hcs
    subst hcs
    exact ⟨none, 0, [], rfl, ⟨fun _ => rfl, by simp⟩, by simp, by simp, by simp⟩
  · simp only [List.cons.injEq, and_true] at hcs
    subst hcs
    simp only [if_true] at hmm
    obtain ⟨f, hf⟩ := Deep.choose_lt (n := len) (p := fun i l => (∃ aj cj, V i = .slice aj l.length cj ∧ Rd W aj l ∧ (aj = none → cj = 0)) ∧ U8 l ∧ l.length ≤ Rows.uptoBulk (D i)) (fun i hi => by
      obtain ⟨h1, h2⟩ := hel i (by omega)
      obtain ⟨aj, cj, l, e1, e2, e3, e4, e5, e6⟩ := open_bytes h2
      exact ⟨l, ⟨aj, cj, e1, e2, e3⟩, e5, Nat.le_trans e4 (bulk_slice e6)⟩)
    refine ⟨some a, cap, (List.range len).map f, by simp, ⟨by simp, ?_⟩, ?_, ?_, ?_⟩
    · intro a' ha' j l hj
      cases ha'
      have hjl : j < len := by
        have := (List.getElem?_eq_some_iff.1 hj).1
        simpa using this
      rw [List.getElem?_map, List.getElem?_range hjl] at hj
      simp only [Option.map_some, Option.some.injEq] at hj
      subst hj
      obtain ⟨⟨aj, cj, e1, e2, e3⟩, _⟩ := hf j hjl
      exact ⟨aj, cj, by rw [(hel j (by omega)).1, e1], e2, e3⟩
    · intro l hl
      simp only [List.mem_map, List.mem_range] at hl
      obtain ⟨i, hi, rfl⟩ := hl
      exact (hf i hi).2.1
    · rw [hx]
      have := bulk_count ((List.range len).map D)
      simp only [Rows.uptoBulk]
      simp only [List.length_map, List.length_range] at this ⊢
      omega
    · rw [hx]
      have := bulk_flat f D (List.range len) (fun i hi => (hf i (by simpa using hi)).2.2)
      simp only [Rows.uptoBulk]
      omega
end Go.Proofs.Ytpgcnchbboohoaa
