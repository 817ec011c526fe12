/-
  WHAT PUT, TAKE AND SPLIT MAKE, PLAINLY: which keys the maps have, that they are balanced, and how many of their nodes are new.
-/
import Derived.Test.YtckkoigghkgfdaaAvl
import Derived.WalkKit
namespace Go.Proofs.Ytckkoigghkgfdaa

/-- An order by -1, 0, 1. -/
structure Ord {α : Type} (f : α → α → Int) : Prop where
  range : ∀ a b, f a b = -1 ∨ f a b = 0 ∨ f a b = 1
  anti : ∀ a b, f a b = - f b a
  eq : ∀ a b, f a b = 0 → a = b
  trans : ∀ a b c, f a b = -1 → f b c = -1 → f a c = -1
theorem Ord.refl {α : Type} {f : α → α → Int} (h : Ord f) (a : α) : f a a = 0 := by have := h.anti a a; omega
theorem cb_range : ∀ l m : List UInt8, Lib.compareBytes l m = -1 ∨ Lib.compareBytes l m = 0 ∨ Lib.compareBytes l m = 1
  | [], [] => by simp [Lib.compareBytes]
  | [], _ :: _ => by simp [Lib.compareBytes]
  | _ :: _, [] => by simp [Lib.compareBytes]
  | a :: l, b :: m => by
    rw [Lib.compareBytes]
    split
    · simp
    · split
      · simp
      · exact cb_range l m
theorem cb_anti : ∀ l m : List UInt8, Lib.compareBytes l m = - Lib.compareBytes m l
  | [], [] => rfl
  | [], _ :: _ => rfl
  | _ :: _, [] => rfl
  | a :: l, b :: m => by
    rw [Lib.compareBytes, Lib.compareBytes]
    by_cases h1 : a < b
    · have h2 : ¬ b < a := fun h => absurd (UInt8.lt_iff_toNat_lt.1 h) (by have := UInt8.lt_iff_toNat_lt.1 h1; omega)
      rw [if_pos h1, if_neg h2, if_pos h1]
    · rw [if_neg h1]
      by_cases h2 : b < a
      · rw [if_pos h2, if_pos h2]; rfl
      · rw [if_neg h2, if_neg h2, if_neg h1]
        exact cb_anti l m
theorem u8_eq {a b : UInt8} (h1 : ¬ a < b) (h2 : ¬ b < a) : a = b := by
  apply UInt8.toNat_inj.1
  rw [UInt8.lt_iff_toNat_lt] at h1 h2
  omega
theorem cb_eq : ∀ l m : List UInt8, Lib.compareBytes l m = 0 → l = m
  | [], [], _ => rfl
  | [], _ :: _, h => by simp [Lib.compareBytes] at h
  | _ :: _, [], h => by simp [Lib.compareBytes] at h
  | a :: l, b :: m, h => by
    rw [Lib.compareBytes] at h
    by_cases h1 : a < b
    · rw [if_pos h1] at h; cases h
    · rw [if_neg h1] at h
      by_cases h2 : b < a
      · rw [if_pos h2] at h; cases h
      · rw [if_neg h2] at h
        rw [u8_eq h1 h2, cb_eq l m h]
theorem cb_trans : ∀ l m k : List UInt8, Lib.compareBytes l m = -1 → Lib.compareBytes m k = -1 → Lib.compareBytes l k = -1
  | [], [], _, h, _ => by simp [Lib.compareBytes] at h
  | _ :: _, [], _, h, _ => by simp [Lib.compareBytes] at h
  | _, _ :: _, [], _, h => by simp [Lib.compareBytes] at h
  | [], _ :: _, _ :: _, _, _ => rfl
  | a :: l, b :: m, c :: k, h1, h2 => by
    rw [Lib.compareBytes] at h1 h2 ⊢
    simp only [UInt8.lt_iff_toNat_lt] at h1 h2 ⊢
    by_cases ab : a.toNat < b.toNat
    · by_cases bc : b.toNat < c.toNat
      · rw [if_pos (by omega)]
      · rw [if_neg bc] at h2
        by_cases cb : c.toNat < b.toNat
        · rw [if_pos cb] at h2; cases h2
        · rw [if_pos (by omega)]
    · rw [if_neg ab] at h1
      by_cases ba : b.toNat < a.toNat
      · rw [if_pos ba] at h1; cases h1
      · rw [if_neg ba] at h1
        by_cases bc : b.toNat < c.toNat
        · rw [if_pos (by omega)]
        · rw [if_neg bc] at h2
          by_cases cb : c.toNat < b.toNat
          · rw [if_pos cb] at h2; cases h2
          · rw [if_neg cb] at h2
            rw [if_neg (by omega), if_neg (by omega)]
            exact cb_trans l m k h1 h2
def cmpB (a b : ByteArray) : Int := Lib.compareBytes a.data.toList b.data.toList
theorem ba_eq {a b : ByteArray} (h : a.data.toList = b.data.toList) : a = b := ByteArray.ext (Array.toList_inj.1 h)
theorem ord_B : Ord cmpB := ⟨fun _ _ => cb_range _ _, fun _ _ => cb_anti _ _, fun _ _ h => ba_eq (cb_eq _ _ h), fun _ _ _ => cb_trans _ _ _⟩
theorem less_cb : ∀ (a b : List UInt8), Op.bytesLess a b = decide (Lib.compareBytes a b = -1)
  | [], [] => by simp [Op.bytesLess, Lib.compareBytes]
  | [], _ :: _ => by simp [Op.bytesLess, Lib.compareBytes]
  | _ :: _, [] => by simp [Op.bytesLess, Lib.compareBytes]
  | a :: l, b :: m => by
    have := less_cb l m
    rw [Lib.compareBytes, Op.bytesLess]
    by_cases h1 : a < b
    · simp [h1]
    · by_cases h2 : b < a
      · simp [h1, h2]
        intro e
        subst e
        exact absurd h2 h1
      · have e := u8_eq h1 h2
        subst e
        simp [this]
theorem less_B (a b : ByteArray) : Op.bytesLess a.toList b.toList = decide (cmpB a b = -1) := by
  rw [ByteArray.toList_eq, ByteArray.toList_eq, less_cb]; rfl

/-- A list of keys, rising. -/
def Srt (l : List (ByteArray × Int)) : Prop := l.Pairwise (fun a b => cmpB a.1 b.1 = -1)
theorem Srt.app {a b : List (ByteArray × Int)} {x : ByteArray × Int} : Srt (a ++ x :: b) ↔ Srt a ∧ Srt b ∧ (∀ y ∈ a, cmpB y.1 x.1 = -1) ∧ (∀ y ∈ b, cmpB x.1 y.1 = -1) := by
  unfold Srt
  rw [List.pairwise_append, List.pairwise_cons]
  constructor
  · rintro ⟨h1, ⟨h2, h3⟩, h4⟩
    exact ⟨h1, h3, fun y hy => h4 y hy x (by simp), h2⟩
  · rintro ⟨h1, h2, h3, h4⟩
    refine ⟨h1, ⟨h4, h2⟩, fun y hy z hz => ?_⟩
    rcases List.mem_cons.1 hz with rfl | hz
    · exact h3 y hy
    · exact ord_B.trans _ _ _ (h3 y hy) (h4 z hz)

/-- Where a key is, or would be. -/
def pos (k : ByteArray) : List (ByteArray × Int) → Nat
  | [] => 0
  | x :: l => if cmpB x.1 k = -1 then pos k l + 1 else 0
/-- Is it there? -/
def has (k : ByteArray) (l : List (ByteArray × Int)) : Bool := match l[pos k l]? with
  | some x => decide (x.1 = k)
  | none => false
def ins (k : ByteArray) (v : Int) (l : List (ByteArray × Int)) : List (ByteArray × Int) := l.take (pos k l) ++ (k, v) :: l.drop (if has k l then pos k l + 1 else pos k l)
def del (k : ByteArray) (l : List (ByteArray × Int)) : List (ByteArray × Int) := if has k l then l.take (pos k l) ++ l.drop (pos k l + 1) else l
theorem pos_le (k : ByteArray) : ∀ l, pos k l ≤ l.length
  | [] => Nat.le_refl _
  | x :: l => by simp only [pos, List.length_cons]; have := pos_le k l; split <;> omega

theorem pos_left {k : ByteArray} {x : ByteArray × Int} (h : cmpB k x.1 ≠ 1) : ∀ (a b : List (ByteArray × Int)), pos k (a ++ x :: b) = pos k a
  | [], b => by
    have h2 : ¬ cmpB x.1 k = -1 := by have := ord_B.anti x.1 k; omega
    simp [pos, h2]
  | y :: a, b => by simp only [List.cons_append, pos, pos_left h a b]
theorem pos_right {k : ByteArray} : ∀ {a b : List (ByteArray × Int)}, (∀ y ∈ a, cmpB y.1 k = -1) → pos k (a ++ b) = a.length + pos k b
  | [], b, _ => by simp
  | y :: a, b, h => by
    have h1 := h y (by simp)
    have := pos_right (a := a) (b := b) (fun z hz => h z (by simp [hz]))
    simp only [List.cons_append, pos, h1, if_true, this, List.length_cons]
    omega
theorem has_left {k : ByteArray} {x : ByteArray × Int} (h : cmpB k x.1 = -1) (a b : List (ByteArray × Int)) : has k (a ++ x :: b) = has k a := by
  unfold has
  rw [pos_left (by omega)]
  have hp := pos_le k a
  by_cases hl : pos k a < a.length
  · rw [List.getElem?_append_left hl]
  · have e : pos k a = a.length := by omega
    have hx : ¬ x.1 = k := fun e => by rw [e, ord_B.refl] at h; omega
    rw [e]
    simp [hx]
theorem has_right {k : ByteArray} {a b : List (ByteArray × Int)} (h : ∀ y ∈ a, cmpB y.1 k = -1) : has k (a ++ b) = has k b := by
  unfold has
  rw [pos_right h, List.getElem?_append_right (by omega), Nat.add_sub_cancel_left]
theorem pos_same {k : ByteArray} {v : Int} {a b : List (ByteArray × Int)} (h : ∀ y ∈ a, cmpB y.1 k = -1) : pos k (a ++ (k, v) :: b) = a.length ∧ has k (a ++ (k, v) :: b) = true := by
  have h2 : pos k ((k, v) :: b) = 0 := by simp [pos, ord_B.refl]
  constructor
  · rw [pos_right h, h2, Nat.add_zero]
  · rw [has_right h]; simp [has, h2]
theorem pos_all {k : ByteArray} {a : List (ByteArray × Int)} (h : ∀ y ∈ a, cmpB y.1 k = -1) : pos k a = a.length ∧ has k a = false := by
  have := pos_right (b := []) h
  simp only [List.append_nil, pos, Nat.add_zero] at this
  exact ⟨this, by simp [has, this]⟩

theorem ins_left {k : ByteArray} {v : Int} {x : ByteArray × Int} (h : cmpB k x.1 = -1) (a b : List (ByteArray × Int)) : ins k v (a ++ x :: b) = ins k v a ++ x :: b := by
  unfold ins
  rw [pos_left (by omega), has_left h]
  have hp := pos_le k a
  have hh : has k a = true → pos k a < a.length := fun e => by
    unfold has at e
    split at e
    · rename_i y hy; exact (List.getElem?_eq_some_iff.1 hy).1
    · cases e
  rw [List.take_append_of_le_length hp]
  cases hb : has k a with
  | false => simp [List.drop_append_of_le_length hp]
  | true => simp [List.drop_append_of_le_length (hh hb)]
theorem ins_right {k : ByteArray} {v : Int} {a b : List (ByteArray × Int)} (h : ∀ y ∈ a, cmpB y.1 k = -1) : ins k v (a ++ b) = a ++ ins k v b := by
  unfold ins
  rw [pos_right h, has_right h, List.take_length_add_append]
  have : (if has k b = true then a.length + pos k b + 1 else a.length + pos k b) = a.length + (if has k b = true then pos k b + 1 else pos k b) := by split <;> omega
  rw [this, List.drop_length_add_append, List.append_assoc]
theorem ins_same {k : ByteArray} {v u : Int} {a b : List (ByteArray × Int)} (h : ∀ y ∈ a, cmpB y.1 k = -1) : ins k v (a ++ (k, u) :: b) = a ++ (k, v) :: b := by
  unfold ins
  obtain ⟨h1, h2⟩ := pos_same (v := u) (b := b) h
  rw [h1, h2]
  simp
theorem del_left {k : ByteArray} {x : ByteArray × Int} (h : cmpB k x.1 = -1) (a b : List (ByteArray × Int)) : del k (a ++ x :: b) = del k a ++ x :: b := by
  unfold del
  rw [pos_left (by omega), has_left h]
  have hp := pos_le k a
  have hh : has k a = true → pos k a < a.length := fun e => by
    unfold has at e
    split at e
    · rename_i y hy; exact (List.getElem?_eq_some_iff.1 hy).1
    · cases e
  cases hb : has k a with
  | false => simp
  | true => simp [List.take_append_of_le_length hp, List.drop_append_of_le_length (hh hb)]
theorem del_right {k : ByteArray} {a b : List (ByteArray × Int)} (h : ∀ y ∈ a, cmpB y.1 k = -1) : del k (a ++ b) = a ++ del k b := by
  unfold del
  rw [pos_right h, has_right h]
  split
  · rw [List.take_length_add_append, Nat.add_assoc, List.drop_length_add_append, List.append_assoc]
  · rfl
theorem del_same {k : ByteArray} {u : Int} {a b : List (ByteArray × Int)} (h : ∀ y ∈ a, cmpB y.1 k = -1) : del k (a ++ (k, u) :: b) = a ++ b := by
  unfold del
  obtain ⟨h1, h2⟩ := pos_same (v := u) (b := b) h
  rw [h1, h2]
  simp
theorem has_mem {k : ByteArray} {l : List (ByteArray × Int)} (h : has k l = true) : ∃ v, l[pos k l]? = some (k, v) := by
  unfold has at h
  split at h
  · rename_i y hy
    simp only [decide_eq_true_eq] at h
    exact ⟨y.2, by rw [hy, ← h]⟩
  · cases h
end Go.Proofs.Ytckkoigghkgfdaa
