/-
  WHAT PUT AND TAKE DO TO WHAT A LIST HAS; VALUES THAT ARE TOLD BY THEIR KEYS STAY SO (the plain part of maps 9).
-/
import Derived.Test.YtckkoigghkgfdaaChange
namespace Go.Proofs.Ytckkoigghkgfdaa
open Go.RowKit Go.Shelf
set_option linter.unusedSimpArgs false

/-- A list in order, at a key. -/
theorem list_at {l : List (ByteArray × Int)} (hs : Srt l) (k : ByteArray) : ∃ A D, (∀ y ∈ A, cmpB y.1 k = -1) ∧ (∀ y ∈ D, cmpB k y.1 = -1) ∧ (∀ v, ins k v l = A ++ (k, v) :: D) ∧ ((has k l = true ∧ del k l = A ++ D ∧ ∃ v, l = A ++ (k, v) :: D) ∨ (has k l = false ∧ del k l = l ∧ l = A ++ D)) := by
  have hsi := srt_ins hs k 0
  have hi : ∀ v, ins k v l = l.take (pos k l) ++ (k, v) :: l.drop (if has k l then pos k l + 1 else pos k l) := fun v => rfl
  rw [hi] at hsi
  obtain ⟨_, _, s3, s4⟩ := Srt.app.1 hsi
  refine ⟨_, _, s3, s4, hi, ?_⟩
  cases hG : has k l with
  | true =>
    left
    obtain ⟨v, hv⟩ := has_mem hG
    have hlt := (List.getElem?_eq_some_iff.1 hv).1
    refine ⟨rfl, by unfold del; rw [hG]; rfl, v, ?_⟩
    rw [List.getElem?_eq_getElem hlt] at hv
    simp only [if_true]
    rw [← Option.some.inj hv, List.getElem_cons_drop, List.take_append_drop]
  | false =>
    right
    refine ⟨rfl, by unfold del; rw [hG]; rfl, ?_⟩
    simp only [if_neg Bool.false_ne_true, List.take_append_drop]
theorem look_ins {l : List (ByteArray × Int)} (hs : Srt l) (k : ByteArray) (v : Int) (j : ByteArray) : look j (ins k v l) = if j = k then (v, true) else look j l := by
  obtain ⟨A, D, h1, h2, h3, h4⟩ := list_at hs k
  obtain ⟨q1, q2, q3⟩ := look_mid (v := v) h1 h2
  rw [h3 v]
  rcases cmp_three j k with e | e | e
  · rw [q2 j e, if_neg (cmp_ne e)]
    rcases h4 with ⟨_, _, v', hl⟩ | ⟨_, _, hl⟩
    · rw [hl, (look_mid (v := v') h1 h2).2.1 j e]
    · conv => rhs; rw [hl]
      rw [(look_two h1 h2).2.1 j e]
  · rw [if_pos e, e, q1]
  · rw [q3 j e, if_neg (cmp_ne e).symm]
    rcases h4 with ⟨_, _, v', hl⟩ | ⟨_, _, hl⟩
    · rw [hl, (look_mid (v := v') h1 h2).2.2 j e]
    · conv => rhs; rw [hl]
      rw [(look_two h1 h2).2.2 j e]
theorem look_del {l : List (ByteArray × Int)} (hs : Srt l) (k j : ByteArray) : look j (del k l) = if j = k then (0, false) else look j l := by
  obtain ⟨A, D, h1, h2, _, h4⟩ := list_at hs k
  obtain ⟨r1, r2, r3⟩ := look_two h1 h2
  rcases h4 with ⟨_, hd, v', hl⟩ | ⟨_, hd, hl⟩
  · obtain ⟨q1, q2, q3⟩ := look_mid (v := v') h1 h2
    rw [hd]
    rcases cmp_three j k with e | e | e
    · rw [r2 j e, if_neg (cmp_ne e), hl, q2 j e]
    · rw [if_pos e, e, r1]
    · rw [r3 j e, if_neg (cmp_ne e).symm, hl, q3 j e]
  · rw [hd]
    by_cases e : j = k
    · rw [if_pos e, e]
      conv => lhs; rw [hl]
      exact r1
    · rw [if_neg e]
/-- A list in order whose values are told by their keys. -/
structure ToldL (fv : ByteArray → Int) (l : List (ByteArray × Int)) : Prop where
  srt : Srt l
  told : ∀ k, Told fv k (look k l)
theorem ToldL.none (fv : ByteArray → Int) : ToldL fv [] := ⟨List.Pairwise.nil, fun _ => .inl rfl⟩
theorem ToldL.put {l : List (ByteArray × Int)} (h : ToldL (fun k => (k.size : Nat)) l) (k : ByteArray) : ToldL (fun k => (k.size : Nat)) (putOne l k) := by
  refine ⟨srt_ins h.srt k _, fun j => ?_⟩
  unfold putOne
  rw [look_ins h.srt]
  split
  · rename_i e; subst e; exact .inr rfl
  · exact h.told j
theorem ToldL.take {fv : ByteArray → Int} {l : List (ByteArray × Int)} (h : ToldL fv l) (ks : List ByteArray) (m : Int) : ToldL fv (takeOne ks l m) := by
  unfold takeOne
  split
  · refine ⟨srt_del h.srt _, fun j => ?_⟩
    rw [look_del h.srt]
    split
    · exact .inl rfl
    · exact h.told j
  · exact h
theorem ToldL.puts {l : List (ByteArray × Int)} (h : ToldL (fun k => (k.size : Nat)) l) : ∀ ps : List ByteArray, ToldL (fun k => (k.size : Nat)) (ps.foldl putOne l) := fun ps => by
  induction ps generalizing l with
  | nil => exact h
  | cons k ps ih => exact ih (h.put k)
theorem ToldL.takes {fv : ByteArray → Int} {l : List (ByteArray × Int)} (h : ToldL fv l) (ks : List ByteArray) : ∀ ts : List Int, ToldL fv (ts.foldl (takeOne ks) l) := fun ts => by
  induction ts generalizing l with
  | nil => exact h
  | cons m ts ih => exact ih (h.take ks m)
end Go.Proofs.Ytckkoigghkgfdaa
