/-
  THE STATEMENT's OWN known: what is known of one map of three keys (the plain part).
-/
import Derived.Test.YtleaaoknjflgoaaTakes
namespace Go.Proofs.Ytleaaoknjflgoaa
open Go.RowKit
set_option linter.unusedSimpArgs false

def kA : ByteArray := ⟨#[97]⟩
def kB : ByteArray := ⟨#[98]⟩
def kC : ByteArray := ⟨#[99]⟩
def kX : ByteArray := ⟨#[120]⟩
/-- The map of the three. -/
def t3 (p q r : Nat) : T := .node p kB 2 (.node q kA 1 .nil .nil) (.node r kC 3 .nil .nil)
def l3 : List (ByteArray × Int) := [(kA, 1), (kB, 2), (kC, 3)]
theorem t3_list (p q r : Nat) : (t3 p q r).list = l3 := rfl
theorem srt3 : Srt l3 := by
  unfold Srt l3
  simp only [List.pairwise_cons, List.mem_cons, List.not_mem_nil, or_false, forall_eq_or_imp, forall_eq, List.Pairwise.nil, and_true, false_imp_iff, implies_true]
  exact ⟨⟨by decide, by decide⟩, by decide⟩
theorem low1 : ∀ {t : T}, t.h ≤ 1 → t.n ≤ 1
  | .nil, _ => by simp [T.n]
  | .node p k v l r, h => by
    have h1 : l.h = 0 := by simp only [T.h] at h; omega
    have h2 : r.h = 0 := by simp only [T.h] at h; omega
    rw [T.h_zero h1, T.h_zero h2]
    simp [T.n]
theorem one_node : ∀ {t : T} {x : ByteArray × Int}, t.list = [x] → ∃ p, t = .node p x.1 x.2 .nil .nil
  | .nil, _, h => by simp [T.list] at h
  | .node p k v l r, x, h => by
    have hn : (T.node p k v l r).list.length = 1 := by rw [h]; rfl
    simp only [T.list, List.length_append, List.length_cons] at hn
    have h1 : l.list = [] := List.eq_nil_of_length_eq_zero (by omega)
    have h2 : r.list = [] := List.eq_nil_of_length_eq_zero (by omega)
    have e1 : l = .nil := by cases l with | nil => rfl | node => simp [T.list] at h1
    have e2 : r = .nil := by cases r with | nil => rfl | node => simp [T.list] at h2
    subst e1 e2
    simp only [T.list, List.nil_append, List.cons.injEq, and_true] at h
    exact ⟨p, by rw [← h]⟩
theorem is3 {t : T} (hl : t.list = l3) (hb : t.bal) : ∃ p q r, t = t3 p q r := by
  cases t with
  | nil => simp [T.list, l3] at hl
  | node p k v l r =>
    obtain ⟨b1, b2, b3, b4⟩ := hb
    have hn : (T.node p k v l r).list.length = 3 := by rw [hl]; rfl
    simp only [T.list, List.length_append, List.length_cons] at hn
    rw [T.n_eq, T.n_eq] at hn
    have n1 : l.n ≠ 0 := by
      intro e
      have : l = .nil := by cases l with | nil => rfl | node => simp [T.n] at e
      subst this
      have := low1 (t := r) (by simpa [T.h] using b2)
      omega
    have n2 : r.n ≠ 0 := by
      intro e
      have : r = .nil := by cases r with | nil => rfl | node => simp [T.n] at e
      subst this
      have := low1 (t := l) (by simpa [T.h] using b1)
      omega
    have hl1 : l.list.length = 1 := by rw [T.n_eq]; omega
    have hr1 : r.list.length = 1 := by rw [T.n_eq]; omega
    obtain ⟨x, hx⟩ := List.length_eq_one_iff.1 hl1
    obtain ⟨y, hy⟩ := List.length_eq_one_iff.1 hr1
    simp only [T.list, hx, hy, l3, List.cons_append, List.nil_append, List.cons.injEq, and_true, Prod.mk.injEq] at hl
    obtain ⟨rfl, ⟨rfl, rfl⟩, rfl⟩ := hl
    obtain ⟨q, rfl⟩ := one_node hx
    obtain ⟨s, rfl⟩ := one_node hy
    exact ⟨p, q, s, rfl⟩
theorem find_or (k : ByteArray) : ∀ t : T, t.find k = .nil ∨ ∃ v, (k, v) ∈ t.list
  | .nil => .inl rfl
  | .node p nk nv l r => by
    unfold T.find
    split
    · rcases find_or k l with h | ⟨v, h⟩
      · exact .inl h
      · exact .inr ⟨v, by simp [T.list, h]⟩
    · rename_i h1
      split
      · rcases find_or k r with h | ⟨v, h⟩
        · exact .inl h
        · exact .inr ⟨v, by simp [T.list, h]⟩
      · rename_i h2
        have h0 := ord_B.range k nk
        have : cmpB k nk = 0 := by omega
        have e := ord_B.eq _ _ this
        exact .inr ⟨nv, by rw [e]; simp [T.list]⟩
theorem srt_same {l m : List (ByteArray × Int)} (h1 : Srt l) (h2 : Srt m) (hp : l.Perm m) : l = m :=
  List.Perm.eq_of_pairwise (fun a b _ _ hab hba => by have := ord_B.anti a.1 b.1; omega) h1 h2 hp
theorem take_b {B p q r : Nat} {t' : T} (h : Takes B kB (t3 p q r) t') : t'.find kB = .nil := by
  rcases find_or kB t' with h1 | ⟨v, h1⟩
  · exact h1
  · rw [h.list (by rw [t3_list]; exact srt3), t3_list] at h1
    have : del kB l3 = [(kA, 1), (kC, 3)] := by decide
    rw [this] at h1
    simp only [List.mem_cons, Prod.mk.injEq, List.not_mem_nil, or_false] at h1
    rcases h1 with ⟨h1, _⟩ | ⟨h1, _⟩
    · exact absurd h1 (by decide)
    · exact absurd h1 (by decide)
theorem take_x {B p q r : Nat} {t' : T} (h : Takes B kX (t3 p q r) t') (hu : (t3 p q r).under B) : t' = t3 p q r :=
  (h.says (by rw [t3_list]; exact srt3) ⟨by simp [T.h], by simp [T.h], ⟨by decide, by decide, trivial, trivial⟩, ⟨by decide, by decide, trivial, trivial⟩⟩ hu).gone (by rw [t3_list]; decide)
theorem put_c {B p q r : Nat} {t' : T} (h : Puts B kC 9 (t3 p q r) t') : ∃ a b, t' = .node a kB 2 (.node q kA 1 .nil .nil) (.node b kC 9 .nil .nil) := by
  unfold t3 at h
  cases h with
  | left hc => exact absurd hc (by decide)
  | same hc => exact absurd hc (by decide)
  | right hc h hj =>
    cases h with
    | left hc => exact absurd hc (by decide)
    | right hc => exact absurd hc (by decide)
    | same _ hq =>
      rcases hj with ⟨_, h2, rfl⟩ | ⟨_, hj⟩
      · exact ⟨_, _, by rw [← h2]⟩
      · cases hj with
        | mid => exact ⟨_, _, rfl⟩
        | left h1 => simp [T.h] at h1
        | right h1 => simp [T.h] at h1
theorem find_b (p q r : Nat) : (t3 p q r).find kB = t3 p q r := rfl
theorem find_c (p q r : Nat) : ((t3 p q r).find kC).val = 3 := rfl
theorem found_c (a b q : Nat) : ((T.node a kB 2 (.node q kA 1 .nil .nil) (.node b kC 9 .nil .nil)).find kC).val = 9 := rfl
theorem shares (p q r a b : Nat) : 1 ≤ sharedIn (.node a kB 2 (.node q kA 1 .nil .nil) (.node b kC 9 .nil .nil)) (t3 p q r) := by
  unfold t3
  rw [sharedIn]
  split
  · simp [T.n]
  · have : sharedIn (.node a kB 2 (.node q kA 1 .nil .nil) (.node b kC 9 .nil .nil)) (.node q kA 1 .nil .nil) = 1 := by
      have e : T.find kA (T.node a kB 2 (.node q kA 1 .nil .nil) (.node b kC 9 .nil .nil)) = .node q kA 1 .nil .nil := rfl
      rw [sharedIn, e, if_pos rfl]; rfl
    omega
end Go.Proofs.Ytleaaoknjflgoaa
