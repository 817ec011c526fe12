/-
  FRAMES, PLAINLY: the four bytes of a number, the head of a frame, how bytes begin, the frames of bytes and where they end.
-/
import Derived.Test.YtmabfaldndlneaaCrc
namespace Go.Proofs.Ytmabfaldndlneaa
open Go.RowKit Crc

/-- Four bytes, the highest first. -/
def w4 (n : Nat) : List Int := [((n / 16777216 % 256 : Nat) : Int), ((n / 65536 % 256 : Nat) : Int), ((n / 256 % 256 : Nat) : Int), ((n % 256 : Nat) : Int)]
theorem w4_length (n : Nat) : (w4 n).length = 4 := rfl
theorem w4_u8 (n : Nat) : U8 (w4 n) := by
  intro y hy
  simp only [w4, List.mem_cons, List.not_mem_nil, or_false] at hy
  omega
/-- The kind and the length. -/
def hd5 (k : Int) (l : List Int) : List Int := k :: w4 l.length
theorem hd5_length (k : Int) (l : List Int) : (hd5 k l).length = 5 := rfl
theorem hd5_u8 {k : Int} (l : List Int) (h : 0 ≤ k ∧ k ≤ 255) : U8 (hd5 k l) := by
  intro y hy
  rcases List.mem_cons.1 hy with rfl | hy
  · exact h
  · exact w4_u8 _ y hy
theorem U8.app {l m : List Int} (h : U8 l) (k : U8 m) : U8 (l ++ m) := fun y hy => by
  rcases List.mem_append.1 hy with q | q
  · exact h y q
  · exact k y q
theorem U8.drop {l : List Int} (h : U8 l) (k : Nat) : U8 (l.drop k) := fun y hy => h y (List.mem_of_mem_drop hy)
/-- A frame's sum. -/
def sm (k : Int) (l : List Int) : Nat := sum (nats (hd5 k l ++ l))
theorem sm_lt {k : Int} {l : List Int} (h : 0 ≤ k ∧ k ≤ 255) (hl : U8 l) : sm k l < 4294967296 := sum_lt (nats_bytes ((hd5_u8 l h).app hl))
/-- A frame's head. -/
def head (k : Int) (l : List Int) : List Int := hd5 k l ++ w4 (sm k l)
theorem head_length (k : Int) (l : List Int) : (head k l).length = 9 := rfl
theorem head_u8 {k : Int} (l : List Int) (h : 0 ≤ k ∧ k ≤ 255) : U8 (head k l) := (hd5_u8 l h).app (w4_u8 _)

/-- What bytes say of a body's length. -/
def len4 (b : List Int) : Nat := (((b.getD 1 0).toNat * 256 + (b.getD 2 0).toNat) * 256 + (b.getD 3 0).toNat) * 256 + (b.getD 4 0).toNat
structure Fr where
  kind : Int
  body : List Int
/-- The frame with which bytes begin, if they do. -/
def fst (b : List Int) : Fr := ⟨b.getD 0 0, (b.drop 9).take (len4 b)⟩
/-- How bytes begin: 0: with a frame. -/
def why (b : List Int) : Nat :=
  if b.length < 9 then 140 else if 16777216 < len4 b then 141 else if b.length < 9 + len4 b then 140 else if head (b.getD 0 0) ((b.drop 9).take (len4 b)) = b.take 9 then 0 else 141
theorem why_few {b : List Int} (h : b.length < 9) : why b = 140 := by rw [why, if_pos h]
theorem why_big {b : List Int} (h : ¬ b.length < 9) (h2 : 16777216 < len4 b) : why b = 141 := by rw [why, if_neg h, if_pos h2]
theorem why_torn {b : List Int} (h : ¬ b.length < 9) (h2 : ¬ 16777216 < len4 b) (h3 : b.length < 9 + len4 b) : why b = 140 := by rw [why, if_neg h, if_neg h2, if_pos h3]
theorem why_bad {b : List Int} (h : ¬ b.length < 9) (h2 : ¬ 16777216 < len4 b) (h3 : ¬ b.length < 9 + len4 b) (h4 : ¬ head (b.getD 0 0) ((b.drop 9).take (len4 b)) = b.take 9) : why b = 141 := by rw [why, if_neg h, if_neg h2, if_neg h3, if_neg h4]
theorem why_good {b : List Int} (h : ¬ b.length < 9) (h2 : ¬ 16777216 < len4 b) (h3 : ¬ b.length < 9 + len4 b) (h4 : head (b.getD 0 0) ((b.drop 9).take (len4 b)) = b.take 9) : why b = 0 := by rw [why, if_neg h, if_neg h2, if_neg h3, if_pos h4]
theorem why_zero {b : List Int} (h : why b = 0) : 9 ≤ b.length ∧ len4 b ≤ 16777216 ∧ 9 + len4 b ≤ b.length ∧ head (b.getD 0 0) ((b.drop 9).take (len4 b)) = b.take 9 := by
  unfold why at h
  split at h
  · omega
  · split at h
    · omega
    · split at h
      · omega
      · split at h
        · refine ⟨by omega, by omega, by omega, by assumption⟩
        · omega
theorem fst_length {b : List Int} (h : why b = 0) : (fst b).body.length = len4 b := by
  obtain ⟨_, _, h3, _⟩ := why_zero h
  simp [fst]; omega

/-- The frames of bytes, each with its place. -/
def frs (b : List Int) (p : Nat) : List (Nat × Fr) :=
  if h : p < b.length ∧ why (b.drop p) = 0 then (p, fst (b.drop p)) :: frs b (p + 9 + (fst (b.drop p)).body.length) else []
termination_by b.length - p
decreasing_by omega
/-- Where they end. -/
def fend (b : List Int) (p : Nat) : Nat :=
  if h : p < b.length ∧ why (b.drop p) = 0 then fend b (p + 9 + (fst (b.drop p)).body.length) else p
termination_by b.length - p
decreasing_by omega
theorem frs_yes {b : List Int} {p : Nat} (h : p < b.length ∧ why (b.drop p) = 0) : frs b p = (p, fst (b.drop p)) :: frs b (p + 9 + (fst (b.drop p)).body.length) := by rw [frs, dif_pos h]
theorem frs_no {b : List Int} {p : Nat} (h : ¬ (p < b.length ∧ why (b.drop p) = 0)) : frs b p = [] := by rw [frs, dif_neg h]
theorem fend_yes {b : List Int} {p : Nat} (h : p < b.length ∧ why (b.drop p) = 0) : fend b p = fend b (p + 9 + (fst (b.drop p)).body.length) := by rw [fend, dif_pos h]
theorem fend_no {b : List Int} {p : Nat} (h : ¬ (p < b.length ∧ why (b.drop p) = 0)) : fend b p = p := by rw [fend, dif_neg h]
theorem next_le {b : List Int} {p : Nat} (h : why (b.drop p) = 0) : p + 9 + (fst (b.drop p)).body.length ≤ b.length := by
  obtain ⟨h1, _, h3, _⟩ := why_zero h
  rw [fst_length h]
  simp at h1 h3
  omega
/-- How bytes end behind their frames. -/
def ends (b : List Int) : Nat := if fend b 0 = b.length then 0 else why (b.drop (fend b 0))
theorem fst_kind {b : List Int} (h : U8 b) : 0 ≤ (fst b).kind ∧ (fst b).kind ≤ 255 := h.getD 0
theorem fst_u8 {b : List Int} (h : U8 b) : U8 (fst b).body := (h.drop 9).take _
/-- Every frame of bytes is the one with which a part of them begins. -/
theorem frs_mem {b : List Int} (p : Nat) : ∀ x ∈ frs b p, p ≤ x.1 ∧ x.1 < b.length ∧ why (b.drop x.1) = 0 ∧ x.2 = fst (b.drop x.1) := by
  intro x hx
  by_cases h : p < b.length ∧ why (b.drop p) = 0
  · rw [frs_yes h] at hx
    rcases List.mem_cons.1 hx with rfl | hx
    · exact ⟨Nat.le_refl _, h.1, h.2, rfl⟩
    · have := frs_mem (p + 9 + (fst (b.drop p)).body.length) x hx
      exact ⟨by omega, this.2⟩
  · rw [frs_no h] at hx
    cases hx
termination_by b.length - p
decreasing_by omega
theorem fend_le {b : List Int} (p : Nat) (hp : p ≤ b.length) : fend b p ≤ b.length ∧ p ≤ fend b p := by
  by_cases h : p < b.length ∧ why (b.drop p) = 0
  · rw [fend_yes h]
    have := fend_le (p + 9 + (fst (b.drop p)).body.length) (next_le h.2)
    omega
  · rw [fend_no h]
    omega
termination_by b.length - p
decreasing_by omega
theorem fend_end (b : List Int) (p : Nat) : ¬ (fend b p < b.length ∧ why (b.drop (fend b p)) = 0) := by
  by_cases h : p < b.length ∧ why (b.drop p) = 0
  · rw [fend_yes h]
    exact fend_end b _
  · rw [fend_no h]
    exact h
termination_by b.length - p
decreasing_by omega
theorem frs_length (b : List Int) (p : Nat) (hp : p ≤ b.length) : p + 9 * (frs b p).length ≤ b.length := by
  by_cases h : p < b.length ∧ why (b.drop p) = 0
  · rw [frs_yes h]
    have := frs_length b (p + 9 + (fst (b.drop p)).body.length) (next_le h.2)
    simp only [List.length_cons]
    omega
  · rw [frs_no h]
    simp; omega
termination_by b.length - p
decreasing_by omega
/-- Where the next one begins, behind the first so many. -/
theorem frs_at (b : List Int) : ∀ (k p : Nat) (x : Nat × Fr), (frs b p)[k]? = some x → (frs b p).drop (k + 1) = frs b (x.1 + 9 + x.2.body.length) ∧ fend b p = fend b (x.1 + 9 + x.2.body.length)
  | 0, p, x, hx => by
    by_cases h : p < b.length ∧ why (b.drop p) = 0
    · rw [frs_yes h] at hx ⊢
      simp at hx
      subst hx
      exact ⟨rfl, fend_yes h⟩
    · rw [frs_no h] at hx
      simp at hx
  | k + 1, p, x, hx => by
    by_cases h : p < b.length ∧ why (b.drop p) = 0
    · rw [frs_yes h] at hx ⊢
      rw [List.getElem?_cons_succ] at hx
      have := frs_at b k _ x hx
      rw [List.drop_succ_cons]
      exact ⟨this.1, (fend_yes h).trans this.2⟩
    · rw [frs_no h] at hx
      simp at hx
/-- The place of the next frame: where the last one ends. -/
def place (L : List (Nat × Fr)) (k : Nat) : Nat := match k with | 0 => 0 | k + 1 => match L[k]? with | some x => x.1 + 9 + x.2.body.length | none => 0
theorem place_at {b : List Int} {k : Nat} {x : Nat × Fr} (hx : (frs b 0)[k]? = some x) : x.1 = place (frs b 0) k := by
  cases k with
  | zero =>
    by_cases h : 0 < b.length ∧ why (b.drop 0) = 0
    · rw [frs_yes h] at hx
      simp at hx
      subst hx
      rfl
    · rw [frs_no h] at hx
      simp at hx
  | succ k =>
    have hk : k < (frs b 0).length := by have := (List.getElem?_eq_some_iff.1 hx).1; omega
    obtain ⟨y, hy⟩ : ∃ y, (frs b 0)[k]? = some y := ⟨_, List.getElem?_eq_getElem hk⟩
    have h1 := (frs_at b k 0 y hy).1
    have h2 : ((frs b 0).drop (k + 1))[0]? = some x := by rw [List.getElem?_drop]; simpa using hx
    rw [h1] at h2
    by_cases h : y.1 + 9 + y.2.body.length < b.length ∧ why (b.drop (y.1 + 9 + y.2.body.length)) = 0
    · rw [frs_yes h] at h2
      simp at h2
      subst h2
      simp [place, hy]
    · rw [frs_no h] at h2
      simp at h2
theorem place_end {b : List Int} : place (frs b 0) (frs b 0).length = fend b 0 := by
  cases hL : (frs b 0).length with
  | zero =>
    have : frs b 0 = [] := List.eq_nil_of_length_eq_zero hL
    by_cases h : 0 < b.length ∧ why (b.drop 0) = 0
    · rw [frs_yes h] at this; simp at this
    · rw [fend_no h]; rfl
  | succ k =>
    have hk : k < (frs b 0).length := by omega
    obtain ⟨y, hy⟩ : ∃ y, (frs b 0)[k]? = some y := ⟨_, List.getElem?_eq_getElem hk⟩
    obtain ⟨h1, h2⟩ := frs_at b k 0 y hy
    rw [List.drop_eq_nil_of_le (by omega)] at h1
    rw [h2]
    by_cases h : y.1 + 9 + y.2.body.length < b.length ∧ why (b.drop (y.1 + 9 + y.2.body.length)) = 0
    · rw [frs_yes h] at h1; simp at h1
    · rw [fend_no h]; simp [place, hy]
end Go.Proofs.Ytmabfaldndlneaa
