/-
  A MAP HAS NO NEW NODE OF ITS OWN.
-/
import Derived.Test.YtckkoigghkgfdaaFew
namespace Go.Proofs.Ytckkoigghkgfdaa
open Go.RowKit Go.Shelf

theorem madeIn_self {os : List T} {t : T} (ht : t ∈ os) (hs : Srt t.list) : madeIn os t = 0 := by
  cases t with
  | nil => rfl
  | node p k v l r =>
    have : os.any (fun o => decide (o.find k = .node p k v l r)) = true := List.any_eq_true.2 ⟨_, ht, decide_eq_true (T.find_sub .here hs)⟩
    rw [madeIn, this]
    rfl
theorem unread_mem (o a b : T) : unread o a b ∈ [o, a, b] := by
  unfold unread
  split
  · simp
  · split <;> simp
end Go.Proofs.Ytckkoigghkgfdaa
