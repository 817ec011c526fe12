/-
  THEORY6: the order of stamps and of their keys; forms that are read as they were; plainly.
-/
import Derived.Test.YtkjabnpniingnaaGreatDoorCmp6
import Derived.Test.YtkjabnpniingnaaGreatDoorDots
import Derived.Test.YtkjabnpniingnaaGreatDoorTaken6
namespace Go.Proofs.YtkjabnpniingnaaGreatDoor
open Go.RowKit Go.Shelf
set_option linter.unusedSimpArgs false

/-- An order by -1, 0, 1. -/
structure Ord {α : Type} (f : α → α → Int) : Prop where
  range : ∀ a b, f a b = -1 ∨ f a b = 0 ∨ f a b = 1
  anti : ∀ a b, f a b = - f b a
  eq : ∀ a b, f a b = 0 → a = b
  trans : ∀ a b c, f a b = -1 → f b c = -1 → f a c = -1

theorem Ord.refl {α : Type} {f : α → α → Int} (h : Ord f) (a : α) : f a a = 0 := by have := h.anti a a; omega

theorem cb_range : ∀ l m : List UInt8, Lib.compareBytes l m = -1 ∨ Lib.compareBytes l m = 0 ∨ Lib.compareBytes l m = 1
  | [], [] => by simp [Lib.compareBytes]
  | [], _ :: _ => by simp [Lib.compareBytes]
  | _ :: _, [] => by simp [Lib.compareBytes]
  | a :: l, b :: m => by
    rw [Lib.compareBytes]
    split
    · simp
    · split
      · simp
      · exact cb_range l m

theorem cb_anti : ∀ l m : List UInt8, Lib.compareBytes l m = - Lib.compareBytes m l
  | [], [] => rfl
  | [], _ :: _ => rfl
  | _ :: _, [] => rfl
  | a :: l, b :: m => by
    rw [Lib.compareBytes, Lib.compareBytes]
    by_cases h1 : a < b
    · have h2 : ¬ b < a := fun h => absurd (UInt8.lt_iff_toNat_lt.1 h) (by have := UInt8.lt_iff_toNat_lt.1 h1; omega)
      rw [if_pos h1, if_neg h2, if_pos h1]
    · rw [if_neg h1]
      by_cases h2 : b < a
      · rw [if_pos h2, if_pos h2]; rfl
      · rw [if_neg h2, if_neg h2, if_neg h1]
        exact cb_anti l m

theorem u8_eq {a b : UInt8} (h1 : ¬ a < b) (h2 : ¬ b < a) : a = b := by
  apply UInt8.toNat_inj.1
  rw [UInt8.lt_iff_toNat_lt] at h1 h2
  omega

theorem cb_eq : ∀ l m : List UInt8, Lib.compareBytes l m = 0 → l = m
  | [], [], _ => rfl
  | [], _ :: _, h => by simp [Lib.compareBytes] at h
  | _ :: _, [], h => by simp [Lib.compareBytes] at h
  | a :: l, b :: m, h => by
    rw [Lib.compareBytes] at h
    by_cases h1 : a < b
    · rw [if_pos h1] at h; cases h
    · rw [if_neg h1] at h
      by_cases h2 : b < a
      · rw [if_pos h2] at h; cases h
      · rw [if_neg h2] at h
        rw [u8_eq h1 h2, cb_eq l m h]

theorem cb_trans : ∀ l m k : List UInt8, Lib.compareBytes l m = -1 → Lib.compareBytes m k = -1 → Lib.compareBytes l k = -1
  | [], [], _, h, _ => by simp [Lib.compareBytes] at h
  | _ :: _, [], _, h, _ => by simp [Lib.compareBytes] at h
  | _, _ :: _, [], _, h => by simp [Lib.compareBytes] at h
  | [], _ :: _, _ :: _, _, _ => rfl
  | a :: l, b :: m, c :: k, h1, h2 => by
    rw [Lib.compareBytes] at h1 h2 ⊢
    simp only [UInt8.lt_iff_toNat_lt] at h1 h2 ⊢
    by_cases ab : a.toNat < b.toNat
    · by_cases bc : b.toNat < c.toNat
      · rw [if_pos (by omega)]
      · rw [if_neg bc] at h2
        by_cases cb : c.toNat < b.toNat
        · rw [if_pos cb] at h2; cases h2
        · rw [if_pos (by omega)]
    · rw [if_neg ab] at h1
      by_cases ba : b.toNat < a.toNat
      · rw [if_pos ba] at h1; cases h1
      · rw [if_neg ba] at h1
        by_cases bc : b.toNat < c.toNat
        · rw [if_pos (by omega)]
        · rw [if_neg bc] at h2
          by_cases cb : c.toNat < b.toNat
          · rw [if_pos cb] at h2; cases h2
          · rw [if_neg cb] at h2
            rw [if_neg (by omega), if_neg (by omega)]
            exact cb_trans l m k h1 h2

theorem ba_eq {a b : ByteArray} (h : a.data.toList = b.data.toList) : a = b := ByteArray.ext (Array.toList_inj.1 h)

theorem ord_B : Ord cmpB := ⟨fun _ _ => cb_range _ _, fun _ _ => cb_anti _ _, fun _ _ h => ba_eq (cb_eq _ _ h), fun _ _ _ => cb_trans _ _ _⟩

theorem ord_I : Ord cmpI := by
  refine ⟨fun a b => ?_, fun a b => ?_, fun a b h => ?_, fun a b c h1 h2 => ?_⟩
  · unfold cmpI; split <;> (try split) <;> simp
  · unfold cmpI; split <;> split <;> (try split) <;> omega
  · unfold cmpI at h; split at h <;> (try split at h) <;> omega
  · unfold cmpI at *; split at h1 <;> (try split at h1) <;> split at h2 <;> (try split at h2) <;> (try omega) <;> (rw [if_pos (by omega)])

/-- One order, and another one behind it. -/
def lex {α β : Type} (f : α → α → Int) (g : β → β → Int) (a b : α × β) : Int := if f a.1 b.1 = 0 then g a.2 b.2 else f a.1 b.1
theorem Ord.lex {α β : Type} {f : α → α → Int} {g : β → β → Int} (hf : Ord f) (hg : Ord g) : Ord (lex f g) := by
  refine ⟨?_, ?_, ?_, ?_⟩
  · intro a b
    unfold Go.Proofs.YtkjabnpniingnaaGreatDoor.lex
    split
    · exact hg.range _ _
    · exact hf.range _ _
  · intro a b
    unfold Go.Proofs.YtkjabnpniingnaaGreatDoor.lex
    have h1 := hf.anti a.1 b.1
    by_cases h : f b.1 a.1 = 0
    · rw [if_pos (by omega), if_pos h]; exact hg.anti _ _
    · rw [if_neg (by omega), if_neg h]; exact h1
  · intro a b h
    unfold Go.Proofs.YtkjabnpniingnaaGreatDoor.lex at h
    split at h
    next h0 => exact Prod.ext (hf.eq _ _ h0) (hg.eq _ _ h)
    next h0 => exact absurd h h0
  · intro a b c h1 h2
    unfold Go.Proofs.YtkjabnpniingnaaGreatDoor.lex at h1 h2 ⊢
    by_cases ha : f a.1 b.1 = 0
    · rw [if_pos ha] at h1
      have ea := hf.eq _ _ ha
      rw [ea]
      by_cases hb : f b.1 c.1 = 0
      · rw [if_pos hb] at h2 ⊢; exact hg.trans _ _ _ h1 h2
      · rw [if_neg hb] at h2 ⊢; exact h2
    · rw [if_neg ha] at h1
      by_cases hb : f b.1 c.1 = 0
      · rw [if_pos hb] at h2
        have eb := hf.eq _ _ hb
        rw [← eb, if_neg ha]; exact h1
      · rw [if_neg hb] at h2
        have := hf.trans _ _ _ h1 h2
        rw [if_neg (by omega)]; exact this
theorem Ord.le {α : Type} {f : α → α → Int} (h : Ord f) {a b c : α} (h1 : f a b ≤ 0) (h2 : f b c ≤ 0) : f a c ≤ 0 := by
  rcases h.range a b with e | e | e
  · rcases h.range b c with e2 | e2 | e2
    · have := h.trans a b c e e2; omega
    · rw [← h.eq _ _ e2]; omega
    · omega
  · rw [h.eq _ _ e]; exact h2
  · omega
/-- Stamps as tuples. -/
abbrev St := Int × Int × ByteArray × Int × Int
def cmpT : St → St → Int := lex cmpI (lex cmpI (lex cmpB (lex cmpI cmpI)))
theorem ord_T : Ord cmpT := ord_I.lex (ord_I.lex (ord_B.lex (ord_I.lex ord_I)))
theorem pair_step (a b t : Int) : (if a < b then (-1 : Int) else if b < a then 1 else t) = if cmpI a b = 0 then t else cmpI a b := by
  unfold cmpI
  by_cases h1 : a < b
  · simp [h1]
  · by_cases h2 : b < a
    · simp [h1, h2]
    · simp [h1, h2]
theorem cmpS_eq (g r : Int) (l : ByteArray) (n x g' r' : Int) (l' : ByteArray) (n' x' : Int) : cmpS g r l n x g' r' l' n' x' = cmpT (g, r, l, n, x) (g', r', l', n', x') := by
  unfold cmpS prs cmpT Go.Proofs.YtkjabnpniingnaaGreatDoor.lex
  simp only [cmpPairs, pair_step]
  have hz : cmpI (cmpB l l') 0 = cmpB l l' := by
    unfold cmpI
    rcases ord_B.range l l' with e | e | e <;> rw [e] <;> decide
  rw [hz]
  congr 1
  congr 1
  congr 1
  congr 1
  by_cases h : cmpI x x' = 0
  · rw [if_pos h, h]
  · rw [if_neg h]
theorem T_less {a b : St} (h : a.1 < b.1) : cmpT a b = -1 := by
  unfold cmpT Go.Proofs.YtkjabnpniingnaaGreatDoor.lex
  have : cmpI a.1 b.1 = -1 := by unfold cmpI; rw [if_pos h]
  rw [this]; rfl

/-- Bytes out of numbers. -/
def U (l : List Int) : List UInt8 := (strOfNums l).data.toList
theorem U_cons (a : Int) (l : List Int) : U (a :: l) = UInt8.ofNat a.toNat :: U l := by
  unfold U strOfNums
  simp
theorem U_nil : U [] = [] := by unfold U strOfNums; simp
theorem U_one (a : Int) : U [a] = [UInt8.ofNat a.toNat] := by rw [U_cons, U_nil]
theorem u8_lt {a b : Nat} (ha : a < 256) (hb : b < 256) : (UInt8.ofNat a < UInt8.ofNat b) ↔ a < b := by
  rw [UInt8.lt_iff_toNat_lt, UInt8.toNat_ofNat', UInt8.toNat_ofNat', Nat.mod_eq_of_lt ha, Nat.mod_eq_of_lt hb]
theorem cb_cons {a b : Nat} (ha : a < 256) (hb : b < 256) (s t : List UInt8) : Lib.compareBytes (UInt8.ofNat a :: s) (UInt8.ofNat b :: t) = if a < b then -1 else if b < a then 1 else Lib.compareBytes s t := by
  rw [Lib.compareBytes]
  simp only [u8_lt ha hb, u8_lt hb ha]
theorem low_mod (n : Nat) : ∀ k j, k ≤ j → low (n % 256 ^ j) k = low n k
  | 0, _, _ => rfl
  | k + 1, j, h => by
    rw [low, low, low_mod n k j (by omega)]
    congr 2
    obtain ⟨d, rfl⟩ : ∃ d, j = (k + 1) + d := ⟨j - (k + 1), by omega⟩
    rw [Nat.pow_add, Nat.pow_succ, Nat.mul_assoc, Nat.mod_mul_right_div_self]
    rw [Nat.mod_mul_right_mod]
theorem cb_low : ∀ (k n m : Nat) (s t : List UInt8), n < 256 ^ k → m < 256 ^ k → Lib.compareBytes (U (low n k) ++ s) (U (low m k) ++ t) = if n < m then -1 else if m < n then 1 else Lib.compareBytes s t
  | 0, n, m, s, t, hn, hm => by
    simp at hn hm
    subst hn hm
    rw [low, U_nil]
    simp
  | k + 1, n, m, s, t, hn, hm => by
    have hp : 0 < 256 ^ k := Nat.pow_pos (by omega)
    have hn' : n / 256 ^ k < 256 := by rw [Nat.div_lt_iff_lt_mul hp]; rw [Nat.pow_succ] at hn; omega
    have hm' : m / 256 ^ k < 256 := by rw [Nat.div_lt_iff_lt_mul hp]; rw [Nat.pow_succ] at hm; omega
    have dn := Nat.div_add_mod n (256 ^ k)
    have dm := Nat.div_add_mod m (256 ^ k)
    have mn := Nat.mod_lt n hp
    have mm := Nat.mod_lt m hp
    rw [low, low, U_cons, U_cons, List.cons_append, List.cons_append]
    rw [show ((n / 256 ^ k % 256 : Nat) : Int).toNat = n / 256 ^ k by rw [Int.toNat_natCast, Nat.mod_eq_of_lt hn'], show ((m / 256 ^ k % 256 : Nat) : Int).toNat = m / 256 ^ k by rw [Int.toNat_natCast, Nat.mod_eq_of_lt hm'], cb_cons hn' hm']
    rw [← low_mod n k k (Nat.le_refl _), ← low_mod m k k (Nat.le_refl _), cb_low k _ _ s t mn mm]
    generalize n / 256 ^ k = a at dn hn' ⊢
    generalize m / 256 ^ k = b at dm hm' ⊢
    generalize n % 256 ^ k = c at dn mn ⊢
    generalize m % 256 ^ k = d at dm mm ⊢
    generalize 256 ^ k = q at dn dm mn mm hp
    by_cases h1 : a < b
    · have : n < m := by
        have : q * (a + 1) ≤ q * b := Nat.mul_le_mul_left _ h1
        rw [Nat.mul_add] at this
        omega
      rw [if_pos h1, if_pos this]
    · by_cases h2 : b < a
      · have h3 : m < n := by
          have : q * (b + 1) ≤ q * a := Nat.mul_le_mul_left _ h2
          rw [Nat.mul_add] at this
          omega
        rw [if_neg h1, if_pos h2, if_neg (by omega), if_pos h3]
      · have e : a = b := by omega
        subst e
        rw [if_neg h1, if_neg h2]
        by_cases h3 : c < d
        · rw [if_pos h3, if_pos (by omega)]
        · rw [if_neg h3]
          by_cases h4 : d < c
          · rw [if_pos h4, if_neg (by omega), if_pos (by omega)]
          · rw [if_neg h4, if_neg (by omega), if_neg (by omega)]
theorem cb_label : ∀ (l m s t : List UInt8), l.all labelByte = true → m.all labelByte = true → Lib.compareBytes (l ++ 0 :: s) (m ++ 0 :: t) = if Lib.compareBytes l m = 0 then Lib.compareBytes s t else Lib.compareBytes l m
  | [], [], s, t, _, _ => by simp [Lib.compareBytes]
  | [], b :: m, s, t, _, hm => by
    have hb : labelByte b = true := by simp at hm; exact hm.1
    have h0 : (0 : UInt8) < b := by
      unfold labelByte at hb
      rw [UInt8.lt_iff_toNat_lt]
      simp at hb
      show 0 < b.toNat
      omega
    simp [Lib.compareBytes, h0]
  | a :: l, [], s, t, hl, _ => by
    have ha : labelByte a = true := by simp at hl; exact hl.1
    have h0 : (0 : UInt8) < a := by
      unfold labelByte at ha
      rw [UInt8.lt_iff_toNat_lt]
      simp at ha
      show 0 < a.toNat
      omega
    have h1 : ¬ a < 0 := by
      rw [UInt8.lt_iff_toNat_lt]
      show ¬ a.toNat < 0
      omega
    simp [Lib.compareBytes, h0, h1]
  | a :: l, b :: m, s, t, hl, hm => by
    have hl' : l.all labelByte = true := by simp at hl ⊢; exact hl.2
    have hm' : m.all labelByte = true := by simp at hm ⊢; exact hm.2
    rw [List.cons_append, List.cons_append, Lib.compareBytes, Lib.compareBytes, cb_label l m s t hl' hm']
    by_cases h1 : a < b
    · simp [h1]
    · by_cases h2 : b < a
      · simp [h1, h2]
      · simp [h1, h2]
theorem keyS_list (g r : Int) (l : ByteArray) (n x : Int) : (keyS g r l n x).data.toList = U (low g.toNat 8) ++ (U [r] ++ (l.data.toList ++ 0 :: (U (low n.toNat 8) ++ U [x]))) := by
  unfold keyS U
  simp only [app_list]
  show _ ++ [0] ++ _ ++ _ = _
  simp
/-- Keys are ordered as stamps are. -/
theorem key_order {g r n x g' r' n' x' : Int} {l l' : ByteArray} (h : stampV g r l n x = true) (h' : stampV g' r' l' n' x' = true) : Lib.compareBytes (keyS g r l n x).data.toList (keyS g' r' l' n' x').data.toList = cmpS g r l n x g' r' l' n' x' := by
  obtain ⟨g0, g1, hn, x0, x1⟩ := stamp_parts h
  obtain ⟨hb, n0, n1⟩ := name_parts hn
  obtain ⟨r0, r1, hl⟩ := branch_parts hb
  obtain ⟨g0', g1', hn', x0', x1'⟩ := stamp_parts h'
  obtain ⟨hb', n0', n1'⟩ := name_parts hn'
  obtain ⟨r0', r1', hl'⟩ := branch_parts hb'
  have ha : l.data.toList.all labelByte = true := by unfold labelB at hl; simp only [Bool.and_eq_true] at hl; exact hl.2
  have ha' : l'.data.toList.all labelByte = true := by unfold labelB at hl'; simp only [Bool.and_eq_true] at hl'; exact hl'.2
  rw [keyS_list, keyS_list, cb_low 8 _ _ _ _ (by simp; omega) (by simp; omega)]
  simp only [U_one, List.cons_append, List.nil_append]
  rw [cb_cons (by omega) (by omega), cb_label _ _ _ _ ha ha', cb_low 8 _ _ _ _ (by simp; omega) (by simp; omega), cb_cons (by omega) (by omega)]
  rw [cmpS_eq]
  unfold cmpT Go.Proofs.YtkjabnpniingnaaGreatDoor.lex
  simp only [Lib.compareBytes]
  have cI : ∀ a b t : Int, 0 ≤ a → 0 ≤ b → (if a.toNat < b.toNat then (-1 : Int) else if b.toNat < a.toNat then 1 else t) = if cmpI a b = 0 then t else cmpI a b := fun a b t h1 h2 => by
    rw [← pair_step]
    by_cases q1 : a < b
    · rw [if_pos q1, if_pos (by omega)]
    · rw [if_neg q1, if_neg (by omega)]
      by_cases q2 : b < a
      · rw [if_pos q2, if_pos (by omega)]
      · rw [if_neg q2, if_neg (by omega)]
  rw [cI g g' _ (by omega) (by omega), cI r r' _ (by omega) (by omega), cI n n' _ (by omega) (by omega), cI x x' _ (by omega) (by omega)]
  congr 1
  congr 1
  show (if cmpB l l' = 0 then _ else cmpB l l') = _
  congr 1
  congr 1
  by_cases q : cmpI x x' = 0
  · rw [if_pos q, q]
  · rw [if_neg q]

/-- What was written is read as it was. -/
theorem rnum_form (m : Nat) (rest : List Int) (h : m < 18446744073709551616) : rnum (Plain.numL m ++ rest) = (m, 0, rest) := by
  have := Plain.readN_form m 0 0 rest (by omega) (by simp) (by omega) (by simpa using h)
  simp at this
  unfold rnum
  rw [this]
  simp
theorem upP_form (k m : Nat) (rest : List Int) (h : m ≤ k) (hk : k < 18446744073709551616) : upP k (Plain.numL m ++ rest) 0 = (m, rest, 0) := by
  unfold upP
  rw [if_neg (by simp), rnum_form m rest (by omega), if_neg (by show ¬ k < m; omega)]
theorem lbP_form (l : ByteArray) (rest : List Int) (h : l.size ≤ 12) : lbP (Plain.numL l.size ++ (ints l.data.toList ++ rest)) 0 = (l, rest, 0) := by
  have hr := Plain.readN_form l.size 0 0 (ints l.data.toList ++ rest) (by omega) (by simp) (by omega) (by simp; omega)
  simp at hr
  have hc : rcount 12 (Plain.numL l.size ++ (ints l.data.toList ++ rest)) = ((l.size : Int), 0, ints l.data.toList ++ rest) := by
    unfold rcount
    rw [if_neg (by omega), hr]
    dsimp only
    rw [if_neg (by omega)]
    simp
  have hl := ints_size l
  unfold lbP
  rw [if_neg (by simp)]
  unfold rbytes
  rw [hc]
  dsimp only
  rw [if_pos rfl, if_neg (by rw [List.length_append]; omega)]
  dsimp only
  rw [Int.toNat_natCast, ← hl, List.take_left, List.drop_left, str_ints, ba_mk]
theorem stP_form {g r n x : Int} {l : ByteArray} (h : stampV g r l n x = true) (rest : List Int) : stP (stL g r l n x ++ rest) 0 = ((g.toNat, r.toNat, l, n.toNat, x.toNat), rest, 0) := by
  obtain ⟨g0, g1, hn, x0, x1⟩ := stamp_parts h
  obtain ⟨hb, n0, n1⟩ := name_parts hn
  have := B_bounds hb
  have e : stL g r l n x ++ rest = Plain.numL g.toNat ++ (Plain.numL r.toNat ++ (Plain.numL l.size ++ (ints l.data.toList ++ (Plain.numL n.toNat ++ (Plain.numL x.toNat ++ rest))))) := by
    unfold stL nmL brL
    simp
  rw [e]
  unfold stP nmP brP
  rw [upP_form 4611686018427387904 g.toNat _ (by omega) (by omega)]
  dsimp only
  rw [upP_form 7 r.toNat _ (by omega) (by omega)]
  dsimp only
  rw [lbP_form l _ (by omega)]
  dsimp only
  rw [upP_form 4611686018427387904 n.toNat _ (by omega) (by omega)]
  dsimp only
  rw [upP_form 63 x.toNat _ (by omega) (by omega)]
theorem tkS_form {g r n x : Int} {l : ByteArray} (h : stampV g r l n x = true) (rest : List Int) : tkSV (stL g r l n x ++ rest) = true ∧ tkS0 (stL g r l n x ++ rest) = g ∧ tkS1 (stL g r l n x ++ rest) = r ∧ tkS2 (stL g r l n x ++ rest) = l ∧ tkS3 (stL g r l n x ++ rest) = n ∧ tkS4 (stL g r l n x ++ rest) = x ∧ tkSL (stL g r l n x ++ rest) = rest := by
  have hb := S_bounds h
  have hf := stP_form h rest
  have hv : tkSV (stL g r l n x ++ rest) = true := by
    unfold tkSV
    rw [hf]
    dsimp only
    rw [Int.toNat_of_nonneg (by omega), Int.toNat_of_nonneg (by omega), Int.toNat_of_nonneg (by omega), Int.toNat_of_nonneg (by omega), h]
    rfl
  unfold tkS0 tkS1 tkS2 tkS3 tkS4 tkSL
  rw [hv, hf]
  refine ⟨rfl, ?_, ?_, rfl, ?_, ?_, rfl⟩
  · show ((g.toNat : Nat) : Int) = g; omega
  · show ((r.toNat : Nat) : Int) = r; omega
  · show ((n.toNat : Nat) : Int) = n; omega
  · show ((x.toNat : Nat) : Int) = x; omega
/-- No stamp's form is the beginning of another one's. -/
theorem stL_pre {g r n x g' r' n' x' : Int} {l l' : ByteArray} (h : stampV g r l n x = true) (h' : stampV g' r' l' n' x' = true) (rest : List Int) (he : stL g' r' l' n' x' = stL g r l n x ++ rest) : (g, r, l, n, x) = (g', r', l', n', x') := by
  obtain ⟨_, a0, a1, a2, a3, a4, _⟩ := tkS_form h rest
  obtain ⟨_, b0, b1, b2, b3, b4, _⟩ := tkS_form h' []
  rw [List.append_nil, he] at b0 b1 b2 b3 b4
  simp only [Prod.mk.injEq]
  exact ⟨a0.symm.trans b0, a1.symm.trans b1, a2.symm.trans b2, a3.symm.trans b3, a4.symm.trans b4⟩
theorem stT_inj {g r n x g' r' n' x' : Int} {l l' : ByteArray} (h : stampV g r l n x = true) (h' : stampV g' r' l' n' x' = true) (he : stT g r l n x = stT g' r' l' n' x') : (g, r, l, n, x) = (g', r', l', n', x') := by
  obtain ⟨_, a0, a1, a2, a3, a4⟩ := ps_of h
  obtain ⟨_, b0, b1, b2, b3, b4⟩ := ps_of h'
  rw [← he] at b0 b1 b2 b3 b4
  simp only [Prod.mk.injEq]
  exact ⟨a0.symm.trans b0, a1.symm.trans b1, a2.symm.trans b2, a3.symm.trans b3, a4.symm.trans b4⟩
theorem less_cb : ∀ (a b : List UInt8), Op.bytesLess a b = decide (Lib.compareBytes a b = -1)
  | [], [] => by simp [Op.bytesLess, Lib.compareBytes]
  | [], _ :: _ => by simp [Op.bytesLess, Lib.compareBytes]
  | _ :: _, [] => by simp [Op.bytesLess, Lib.compareBytes]
  | a :: l, b :: m => by
    have := less_cb l m
    rw [Lib.compareBytes, Op.bytesLess]
    by_cases h1 : a < b
    · simp [h1]
    · by_cases h2 : b < a
      · simp [h1, h2]
        intro e
        subst e
        exact absurd h2 h1
      · have e := u8_eq h1 h2
        subst e
        simp [this]
end Go.Proofs.YtkjabnpniingnaaGreatDoor
