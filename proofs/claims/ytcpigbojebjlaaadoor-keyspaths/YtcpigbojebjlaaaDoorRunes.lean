/-
  RUNES, plainly: the document's reading of UTF-8, step by step, is the library's.
-/
import Derived.Test.YtcpigbojebjlaaaDoorKey
namespace Go.Proofs.YtcpigbojebjlaaaDoor

/-- The bytes behind a rune's first one. -/
def conts : Nat → List UInt8 → Nat → Option Nat
  | 0, _, c => some c
  | _ + 1, [], _ => none
  | m + 1, b :: t, c => if b.toNat < 128 ∨ 192 ≤ b.toNat then none else conts m t (64 * c + (b.toNat - 128))
/-- A rune's first byte: how many bytes, what it brings, the least that may come out. -/
def lead (b : Nat) : Option (Nat × Nat × Nat) :=
  if b < 128 then some (1, b, 0) else if 192 ≤ b ∧ b < 224 then some (2, b - 192, 128) else if 224 ≤ b ∧ b < 240 then some (3, b - 224, 2048) else if 240 ≤ b ∧ b < 248 then some (4, b - 240, 65536) else none
def badRune (r least : Nat) : Prop := r < least ∨ 1114111 < r ∨ (55296 ≤ r ∧ r ≤ 57343)
instance (r least : Nat) : Decidable (badRune r least) := by unfold badRune; infer_instance
def rune1 : List UInt8 → Option (Nat × Nat)
  | [] => none
  | b :: t => match lead b.toNat with
    | none => none
    | some (n, c, least) => if t.length + 1 < n then none else match conts (n - 1) t c with
      | none => none
      | some r => if badRune r least then none else some (r, n)

set_option maxRecDepth 100000 in
set_option maxHeartbeats 4000000 in
theorem rune1_eq (b : UInt8) (t : List UInt8) : rune1 (b :: t) = if Lib.decodeL (b :: t) = (65533, 1) then none else some (Lib.decodeL (b :: t)) := by
  have hb : b.toNat < 256 := b.toNat_lt
  rw [Lib.decodeL_N]
  unfold rune1 lead
  simp only [List.length_cons, List.getD_cons_zero, List.getD_cons_succ]
  by_cases h1 : b.toNat < 128
  · have e : (b.toNat, 1) ≠ (65533, 1) := by intro h; have h' := congrArg Prod.fst h; simp only at h'; omega
    have e2 : Lib.decodeN (t.length + 1) b.toNat (t.getD 0 0).toNat (t.getD 1 0).toNat (t.getD 2 0).toNat = (b.toNat, 1) := by unfold Lib.decodeN; rw [if_pos h1]
    rw [e2, if_neg e, if_pos h1]
    simp only [conts, Nat.sub_self]
    rw [if_neg (by omega)]
    exact if_neg (by unfold badRune; omega)
  · rw [if_neg h1]
    by_cases h2 : 192 ≤ b.toNat ∧ b.toNat < 224
    · rw [if_pos h2]
      simp only
      match t with
      | [] =>
        rw [if_pos (by simp)]
        have : Lib.decodeN 1 b.toNat 0 0 0 = (65533, 1) := by
          unfold Lib.decodeN; repeat' split
          all_goals first | rfl | (exfalso; omega)
        simp [this]
      | b1 :: t' =>
        have hb1 : b1.toNat < 256 := b1.toNat_lt
        rw [if_neg (by simp)]
        simp only [conts, List.getD_cons_zero, List.getD_cons_succ, Nat.reduceSub]
        generalize (t'.getD 0 0).toNat = x2
        generalize (t'.getD 1 0).toNat = x3
        by_cases c1 : b1.toNat < 128 ∨ 192 ≤ b1.toNat
        · rw [if_pos c1]
          have : Lib.decodeN ((b1 :: t').length + 1) b.toNat b1.toNat x2 x3 = (65533, 1) := by
            unfold Lib.decodeN; repeat' split
            all_goals first | rfl | (exfalso; omega)
          rw [this, if_pos rfl]
        · rw [if_neg c1]
          simp only
          by_cases c2 : badRune (64 * (b.toNat - 192) + (b1.toNat - 128)) 128
          · rw [if_pos c2]
            have : Lib.decodeN ((b1 :: t').length + 1) b.toNat b1.toNat x2 x3 = (65533, 1) := by
              unfold badRune at c2
              unfold Lib.decodeN; repeat' split
              all_goals first | rfl | (exfalso; omega)
            rw [this, if_pos rfl]
          · rw [if_neg c2]
            have : Lib.decodeN ((b1 :: t').length + 1) b.toNat b1.toNat x2 x3 = (64 * (b.toNat - 192) + (b1.toNat - 128), 2) := by
              unfold badRune at c2
              simp only [List.length_cons]
              unfold Lib.decodeN; repeat' split
              all_goals first | (exfalso; omega) | (rw [Prod.mk.injEq]; omega)
            rw [this, if_neg (by intro h; have h' := congrArg Prod.snd h; simp only at h'; omega)]
    · rw [if_neg h2]
      by_cases h3 : 224 ≤ b.toNat ∧ b.toNat < 240
      · rw [if_pos h3]
        simp only
        match t with
        | [] =>
          rw [if_pos (by simp)]
          have : Lib.decodeN 1 b.toNat 0 0 0 = (65533, 1) := by
            unfold Lib.decodeN; repeat' split
            all_goals first | rfl | (exfalso; omega)
          simp [this]
        | [b1] =>
          rw [if_pos (by simp)]
          have : Lib.decodeN 2 b.toNat b1.toNat 0 0 = (65533, 1) := by
            unfold Lib.decodeN; repeat' split
            all_goals first | rfl | (exfalso; omega)
          simp [this]
        | b1 :: b2 :: t' =>
          have hb1 : b1.toNat < 256 := b1.toNat_lt
          have hb2 : b2.toNat < 256 := b2.toNat_lt
          rw [if_neg (by simp)]
          simp only [conts, List.getD_cons_zero, List.getD_cons_succ, Nat.reduceSub]
          generalize (t'.getD 0 0).toNat = x3
          by_cases c1 : b1.toNat < 128 ∨ 192 ≤ b1.toNat
          · rw [if_pos c1]
            have : Lib.decodeN ((b1 :: b2 :: t').length + 1) b.toNat b1.toNat b2.toNat x3 = (65533, 1) := by
              unfold Lib.decodeN; repeat' split
              all_goals first | rfl | (exfalso; omega)
            rw [this, if_pos rfl]
          · rw [if_neg c1]
            by_cases c2 : b2.toNat < 128 ∨ 192 ≤ b2.toNat
            · rw [if_pos c2]
              have : Lib.decodeN ((b1 :: b2 :: t').length + 1) b.toNat b1.toNat b2.toNat x3 = (65533, 1) := by
                unfold Lib.decodeN; repeat' split
                all_goals first | rfl | (exfalso; omega)
              rw [this, if_pos rfl]
            · rw [if_neg c2]
              simp only
              by_cases c3 : badRune (64 * (64 * (b.toNat - 224) + (b1.toNat - 128)) + (b2.toNat - 128)) 2048
              · rw [if_pos c3]
                have : Lib.decodeN ((b1 :: b2 :: t').length + 1) b.toNat b1.toNat b2.toNat x3 = (65533, 1) := by
                  unfold badRune at c3
                  unfold Lib.decodeN; repeat' split
                  all_goals first | rfl | (exfalso; omega)
                rw [this, if_pos rfl]
              · rw [if_neg c3]
                have : Lib.decodeN ((b1 :: b2 :: t').length + 1) b.toNat b1.toNat b2.toNat x3 = (64 * (64 * (b.toNat - 224) + (b1.toNat - 128)) + (b2.toNat - 128), 3) := by
                  unfold badRune at c3
                  simp only [List.length_cons]
                  unfold Lib.decodeN; repeat' split
                  all_goals first | (exfalso; omega) | (rw [Prod.mk.injEq]; omega)
                rw [this, if_neg (by intro h; have h' := congrArg Prod.snd h; simp only at h'; omega)]
      · rw [if_neg h3]
        by_cases h4 : 240 ≤ b.toNat ∧ b.toNat < 248
        · rw [if_pos h4]
          simp only
          match t with
          | [] =>
            rw [if_pos (by simp)]
            have : Lib.decodeN 1 b.toNat 0 0 0 = (65533, 1) := by
              unfold Lib.decodeN; repeat' split
              all_goals first | rfl | (exfalso; omega)
            simp [this]
          | [b1] =>
            rw [if_pos (by simp)]
            have : Lib.decodeN 2 b.toNat b1.toNat 0 0 = (65533, 1) := by
              unfold Lib.decodeN; repeat' split
              all_goals first | rfl | (exfalso; omega)
            simp [this]
          | [b1, b2] =>
            rw [if_pos (by simp)]
            have : Lib.decodeN 3 b.toNat b1.toNat b2.toNat 0 = (65533, 1) := by
              unfold Lib.decodeN; repeat' split
              all_goals first | rfl | (exfalso; omega)
            simp [this]
          | b1 :: b2 :: b3 :: t' =>
            have hb1 : b1.toNat < 256 := b1.toNat_lt
            have hb2 : b2.toNat < 256 := b2.toNat_lt
            have hb3 : b3.toNat < 256 := b3.toNat_lt
            rw [if_neg (by simp)]
            simp only [conts, List.getD_cons_zero, List.getD_cons_succ, Nat.reduceSub]
            by_cases c1 : b1.toNat < 128 ∨ 192 ≤ b1.toNat
            · rw [if_pos c1]
              have : Lib.decodeN ((b1 :: b2 :: b3 :: t').length + 1) b.toNat b1.toNat b2.toNat b3.toNat = (65533, 1) := by
                unfold Lib.decodeN; repeat' split
                all_goals first | rfl | (exfalso; omega)
              rw [this, if_pos rfl]
            · rw [if_neg c1]
              by_cases c2 : b2.toNat < 128 ∨ 192 ≤ b2.toNat
              · rw [if_pos c2]
                have : Lib.decodeN ((b1 :: b2 :: b3 :: t').length + 1) b.toNat b1.toNat b2.toNat b3.toNat = (65533, 1) := by
                  unfold Lib.decodeN; repeat' split
                  all_goals first | rfl | (exfalso; omega)
                rw [this, if_pos rfl]
              · rw [if_neg c2]
                by_cases c3 : b3.toNat < 128 ∨ 192 ≤ b3.toNat
                · rw [if_pos c3]
                  have : Lib.decodeN ((b1 :: b2 :: b3 :: t').length + 1) b.toNat b1.toNat b2.toNat b3.toNat = (65533, 1) := by
                    unfold Lib.decodeN; repeat' split
                    all_goals first | rfl | (exfalso; omega)
                  rw [this, if_pos rfl]
                · rw [if_neg c3]
                  simp only
                  by_cases c4 : badRune (64 * (64 * (64 * (b.toNat - 240) + (b1.toNat - 128)) + (b2.toNat - 128)) + (b3.toNat - 128)) 65536
                  · rw [if_pos c4]
                    have : Lib.decodeN ((b1 :: b2 :: b3 :: t').length + 1) b.toNat b1.toNat b2.toNat b3.toNat = (65533, 1) := by
                      unfold badRune at c4
                      unfold Lib.decodeN; repeat' split
                      all_goals first | rfl | (exfalso; omega)
                    rw [this, if_pos rfl]
                  · rw [if_neg c4]
                    have : Lib.decodeN ((b1 :: b2 :: b3 :: t').length + 1) b.toNat b1.toNat b2.toNat b3.toNat = (64 * (64 * (64 * (b.toNat - 240) + (b1.toNat - 128)) + (b2.toNat - 128)) + (b3.toNat - 128), 4) := by
                      unfold badRune at c4
                      simp only [List.length_cons]
                      unfold Lib.decodeN; repeat' split
                      all_goals first | (exfalso; omega) | (rw [Prod.mk.injEq]; omega)
                    rw [this, if_neg (by intro h; have h' := congrArg Prod.snd h; simp only at h'; omega)]
        · rw [if_neg h4]
          have : Lib.decodeN (t.length + 1) b.toNat (t.getD 0 0).toNat (t.getD 1 0).toNat (t.getD 2 0).toNat = (65533, 1) := by
            unfold Lib.decodeN; repeat' split
            all_goals first | rfl | (exfalso; omega)
          rw [this, if_pos rfl]

def kr (r : Nat) : Bool := decide (32 ≤ r) && decide (r ≠ 47)
theorem rune_none {s : ByteArray} {pos : Nat} (h : pos < s.size) (hr : rune1 (s.data.toList.drop pos) = none) : Lib.validD (s.data.toList.drop pos) = false := by
  have hl : s.data.toList.length = s.size := (Lib.size_eq s).symm
  rw [List.drop_eq_getElem_cons (by omega)] at hr ⊢
  rw [rune1_eq] at hr
  rw [Lib.validD_step _ (by simp)]
  split at hr
  · next h => rw [h]; rfl
  · cases hr
theorem rune_step {s : ByteArray} {pos r n : Nat} (h : pos < s.size) (hr : rune1 (s.data.toList.drop pos) = some (r, n)) :
    1 ≤ n ∧ pos + n ≤ s.size ∧ Lib.validD (s.data.toList.drop pos) = Lib.validD (s.data.toList.drop (pos + n)) ∧ (s.data.toList.drop pos).all keyByte = (kr r && (s.data.toList.drop (pos + n)).all keyByte) := by
  have hl : s.data.toList.length = s.size := (Lib.size_eq s).symm
  have hne : s.data.toList.drop pos ≠ [] := by
    intro e
    have := congrArg List.length e
    simp [List.length_drop] at this
    omega
  have he : Lib.decodeL (s.data.toList.drop pos) = (r, n) ∧ ¬ (Lib.decodeL (s.data.toList.drop pos) = (65533, 1)) := by
    rw [List.drop_eq_getElem_cons (by omega)] at hr ⊢
    rw [rune1_eq] at hr
    split at hr
    · cases hr
    · next h => exact ⟨Option.some.inj hr, h⟩
  have hv := Lib.validD_step _ hne
  have hw := Lib.decodeL_width (s.data.toList.drop pos)
  rw [he.1] at hv hw
  have hd := Lib.decodeL_drop s pos
  rw [he.1] at hd
  rw [if_neg (by rintro ⟨e1, e2⟩; exact he.2 (by rw [he.1, Prod.mk.injEq]; exact ⟨e1, e2⟩)), List.drop_drop] at hv
  by_cases ha : (s[pos]'h).toNat < 128
  · have hdec := decode_ascii s pos h ha
    rw [← hd] at hdec
    cases hdec
    refine ⟨Nat.le_refl _, by omega, hv, ?_⟩
    rw [all_one keyByte s pos h]
    rfl
  · obtain ⟨a1, a2, a3, a4⟩ := all_skip keyByte (fun b hb => by unfold keyByte; simp; omega) s pos h (by rw [getD_byte s pos h]; omega)
    rw [← hd] at a1 a2 a3 a4
    refine ⟨a3, a2, hv, ?_⟩
    rw [a1]
    have : kr r = true := by unfold kr; simp at a4 ⊢; omega
    rw [this, Bool.true_and]
end Go.Proofs.YtcpigbojebjlaaaDoor
