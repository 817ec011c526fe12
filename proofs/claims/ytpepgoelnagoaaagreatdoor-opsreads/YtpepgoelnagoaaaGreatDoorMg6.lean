/-
  PLAINLY: a word is read as the text that it is the word of, and as no other; a path's text is split as the path whose text it is.
  RUNES, plainly: the document's reading of UTF-8, step by step, is the library's.
-/
import Derived.Test.YtpepgoelnagoaaaGreatDoorMg4
import Derived.Test.YtpepgoelnagoaaaGreatDoorMg5
import Derived.Test.YtpepgoelnagoaaaGreatDoorMg3
namespace Go.Proofs.YtpepgoelnagoaaaGreatDoor

/-- The value that the document gives a digit. -/
def valB (c : UInt8) : UInt8 := if 65 ≤ c.toNat ∧ c.toNat ≤ 70 then c - 65 + 10 else c - 48
def pairB (x y : UInt8) : UInt8 := 16 * valB x + valB y
/-- The document's reading of a word, n bytes at most. -/
def looseGo : Nat → List UInt8 → List UInt8
  | 0, _ => []
  | n + 1, l => match l with
    | [] => []
    | b :: t => if b.toNat = 37 ∧ 2 ≤ t.length then pairB (t.getD 0 0) (t.getD 1 0) :: looseGo n (t.drop 2) else b :: looseGo n t
theorem looseGo_fuel : ∀ (n m : Nat) (l : List UInt8), l.length ≤ n → l.length ≤ m → looseGo n l = looseGo m l
  | 0, m, l, h, _ => by
    have : l = [] := List.eq_nil_of_length_eq_zero (by omega)
    subst this
    cases m <;> rfl
  | n + 1, 0, l, _, h => by
    have : l = [] := List.eq_nil_of_length_eq_zero (by omega)
    subst this
    rfl
  | n + 1, m + 1, l, h1, h2 => by
    cases l with
    | nil => rfl
    | cons b t =>
      simp only [List.length_cons] at h1 h2
      simp only [looseGo]
      split
      · rw [looseGo_fuel n m (t.drop 2) (by rw [List.length_drop]; omega) (by rw [List.length_drop]; omega)]
      · rw [looseGo_fuel n m t (by omega) (by omega)]
def looseB (l : List UInt8) : List UInt8 := looseGo l.length l
theorem looseB_pair (b : UInt8) (t : List UInt8) (h : b.toNat = 37 ∧ 2 ≤ t.length) : looseB (b :: t) = pairB (t.getD 0 0) (t.getD 1 0) :: looseB (t.drop 2) := by
  unfold looseB
  rw [List.length_cons, looseGo]
  simp only [if_pos h]
  rw [looseGo_fuel t.length (t.drop 2).length (t.drop 2) (by rw [List.length_drop]; omega) (Nat.le_refl _)]
theorem looseB_one (b : UInt8) (t : List UInt8) (h : ¬ (b.toNat = 37 ∧ 2 ≤ t.length)) : looseB (b :: t) = b :: looseB t := by
  unfold looseB
  rw [List.length_cons, looseGo]
  simp only [if_neg h]

set_option maxRecDepth 100000 in
theorem byte_facts : ∀ n : Fin 256, (stand n.val.toUInt8 = true → n.val ≠ 37) ∧ (stand n.val.toUInt8 = false → pairB (hexd (n.val / 16)) (hexd (n.val % 16)) = n.val.toUInt8 ∧ hexv (hexd (n.val / 16)) = (n.val / 16 : Nat) ∧ hexv (hexd (n.val % 16)) = (n.val % 16 : Nat)) := by decide +kernel
set_option maxRecDepth 100000 in
theorem hex_back : ∀ n : Fin 256, 0 ≤ hexv n.val.toUInt8 → hexd (hexv n.val.toUInt8).toNat = n.val.toUInt8 := by decide +kernel
theorem byte_fact (b : UInt8) : (stand b = true → b.toNat ≠ 37) ∧ (stand b = false → pairB (hexd (b.toNat / 16)) (hexd (b.toNat % 16)) = b ∧ hexv (hexd (b.toNat / 16)) = (b.toNat / 16 : Nat) ∧ hexv (hexd (b.toNat % 16)) = (b.toNat % 16 : Nat)) := by
  have := byte_facts ⟨b.toNat, b.toNat_lt⟩
  simpa using this
theorem hex_fact (b : UInt8) (h : 0 ≤ hexv b) : hexd (hexv b).toNat = b := by
  have := hex_back ⟨b.toNat, b.toNat_lt⟩
  simp at this
  exact this h

theorem loose_flat : ∀ t : List UInt8, looseB (t.flatMap wordByte) = t
  | [] => rfl
  | b :: t => by
    rw [List.flatMap_cons]
    obtain ⟨h1, h2⟩ := byte_fact b
    cases hs : stand b with
    | true =>
      have hw : wordByte b = [b] := by unfold wordByte; rw [if_pos hs]
      rw [hw, List.cons_append, List.nil_append, looseB_one b _ (fun e => h1 hs e.1), loose_flat t]
    | false =>
      have hw : wordByte b = [37, hexd (b.toNat / 16), hexd (b.toNat % 16)] := by unfold wordByte; rw [if_neg (by rw [hs]; simp)]
      rw [hw]
      simp only [List.cons_append, List.nil_append]
      rw [looseB_pair 37 _ ⟨by decide, by simp⟩]
      simp only [List.getD_cons_zero, List.getD_cons_succ, List.drop_succ_cons, List.drop_zero]
      rw [(h2 hs).1, loose_flat t]
theorem wordByte_ne (b : UInt8) : wordByte b ≠ [] := by unfold wordByte; split <;> simp
theorem flat_ne {t : List UInt8} (h : t ≠ []) : t.flatMap wordByte ≠ [] := by
  cases t with
  | nil => exact absurd rfl h
  | cons b t =>
    rw [List.flatMap_cons]
    intro e
    exact wordByte_ne b (List.append_eq_nil_iff.1 e).1
theorem flat_ne37 {t : List UInt8} : t.flatMap wordByte ≠ [37] := by
  cases t with
  | nil => simp
  | cons b t =>
    rw [List.flatMap_cons]
    obtain ⟨h1, _⟩ := byte_fact b
    unfold wordByte
    split
    · next hs =>
      intro e
      simp only [List.cons_append, List.nil_append, List.cons.injEq] at e
      exact h1 hs (by rw [e.1]; rfl)
    · simp

theorem firstB_word (b : UInt8) (r : List UInt8) : firstB (wordByte b ++ r) = (b, (wordByte b).length) := by
  obtain ⟨h1, h2⟩ := byte_fact b
  cases hs : stand b with
  | true =>
    have hw : wordByte b = [b] := by unfold wordByte; rw [if_pos hs]
    rw [hw]
    unfold firstB
    simp only [List.cons_append, List.nil_append, List.getD_cons_zero, List.length_cons, List.length_nil]
    rw [if_pos hs]
  | false =>
    obtain ⟨_, e1, e2⟩ := h2 hs
    have hw : wordByte b = [37, hexd (b.toNat / 16), hexd (b.toNat % 16)] := by unfold wordByte; rw [if_neg (by rw [hs]; simp)]
    rw [hw]
    have e3 : ((hexv (hexd (b.toNat / 16))).toNat * 16 + (hexv (hexd (b.toNat % 16))).toNat).toUInt8 = b := by
      rw [e1, e2]
      simp only [Int.toNat_natCast]
      rw [show b.toNat / 16 * 16 + b.toNat % 16 = b.toNat by omega]
      simp
    unfold firstB
    simp only [List.cons_append, List.nil_append, List.getD_cons_zero, List.getD_cons_succ, List.length_cons, List.length_nil]
    rw [if_neg (by decide), if_neg (by simp), if_neg (by rw [e1, e2]; omega), e3, if_neg (by rw [hs]; simp)]
theorem unwordGo_flat : ∀ (t : List UInt8) (n : Nat), (t.flatMap wordByte).length ≤ n → unwordGo n (t.flatMap wordByte) = some t
  | [], n, _ => by cases n <;> simp [unwordGo]
  | b :: t, n, h => by
    have hl := List.length_pos_iff.2 (wordByte_ne b)
    rw [List.flatMap_cons] at h ⊢
    rw [List.length_append] at h
    cases n with
    | zero => omega
    | succ n =>
      rw [unwordGo_step (by intro e; exact wordByte_ne b (List.append_eq_nil_iff.1 e).1), firstB_word]
      simp only
      rw [if_neg (by omega), List.drop_left, unwordGo_flat t n (by omega)]
      rfl
/-- What was written as a word is read as it was. -/
theorem unword_word (t : List UInt8) : unwordB (wordB t) = some t := by
  unfold wordB
  by_cases h : t = []
  · subst h; rfl
  · rw [if_neg h, unwordB, if_neg (flat_ne h), if_neg flat_ne37, unwordGo_flat t _ (Nat.le_refl _)]
theorem first_take {l : List UInt8} (hl : l ≠ []) (h : (firstB l).2 ≠ 0) : l = wordByte (firstB l).1 ++ l.drop (firstB l).2 := by
  cases l with
  | nil => exact absurd rfl hl
  | cons b t =>
    unfold firstB at h ⊢
    simp only [List.getD_cons_zero, List.getD_cons_succ] at h ⊢
    by_cases hs : stand b = true
    · rw [if_pos hs]
      have hw : wordByte b = [b] := by unfold wordByte; rw [if_pos hs]
      simp [hw]
    · rw [if_neg hs] at h ⊢
      by_cases h3 : b.toNat ≠ 37 ∨ (b :: t).length < 3
      · rw [if_pos h3] at h; exact absurd rfl h
      · rw [if_neg h3] at h ⊢
        match t, h3 with
        | x :: y :: r, h3 =>
          simp only [List.getD_cons_zero, List.getD_cons_succ] at h ⊢
          by_cases h4 : hexv x < 0 ∨ hexv y < 0
          · rw [if_pos h4] at h; exact absurd rfl h
          · rw [if_neg h4] at h ⊢
            by_cases h5 : stand ((hexv x).toNat * 16 + (hexv y).toNat).toUInt8 = true
            · rw [if_pos h5] at h; exact absurd rfl h
            · rw [if_neg h5]
              have b1 := hexv_le x
              have b2 := hexv_le y
              have ev : ((hexv x).toNat * 16 + (hexv y).toNat).toUInt8.toNat = (hexv x).toNat * 16 + (hexv y).toNat := by
                simp; omega
              have hb : b = 37 := by apply UInt8.toNat_inj.1; simp; omega
              simp only
              unfold wordByte
              rw [if_neg h5, ev]
              simp only [List.cons_append, List.nil_append, List.drop_succ_cons, List.drop_zero]
              rw [show ((hexv x).toNat * 16 + (hexv y).toNat) / 16 = (hexv x).toNat by omega, show ((hexv x).toNat * 16 + (hexv y).toNat) % 16 = (hexv y).toNat by omega, hex_fact x (by omega), hex_fact y (by omega), hb]
        | [], h3 => simp at h3
        | [x], h3 => simp at h3
theorem unwordGo_sound : ∀ (n : Nat) (l t : List UInt8), l.length ≤ n → unwordGo n l = some t → t.flatMap wordByte = l
  | 0, l, t, h, e => by
    have : l = [] := List.eq_nil_of_length_eq_zero (by omega)
    subst this
    simp only [unwordGo, Option.some.injEq] at e
    subst e
    rfl
  | n + 1, l, t, h, e => by
    by_cases hl : l = []
    · subst hl
      simp only [unwordGo, if_true, Option.some.injEq] at e
      subst e
      rfl
    · rw [unwordGo_step hl] at e
      by_cases h0 : (firstB l).2 = 0
      · rw [if_pos h0] at e; cases e
      · rw [if_neg h0] at e
        cases hr : unwordGo n (l.drop (firstB l).2) with
        | none => rw [hr] at e; cases e
        | some u =>
          rw [hr] at e
          simp only [Option.map_some, Option.some.injEq] at e
          subst e
          have := unwordGo_sound n (l.drop (firstB l).2) u (by rw [List.length_drop]; omega) hr
          rw [List.flatMap_cons, this]
          exact (first_take hl h0).symm
/-- What is read of a word has that word. -/
theorem unword_sound {l t : List UInt8} (h : unwordB l = some t) : wordB t = l := by
  unfold unwordB at h
  by_cases h0 : l = []
  · rw [if_pos h0] at h; cases h
  · rw [if_neg h0] at h
    by_cases h1 : l = [37]
    · rw [if_pos h1] at h
      cases h
      exact h1.symm
    · rw [if_neg h1] at h
      have e := unwordGo_sound _ _ _ (Nat.le_refl _) h
      unfold wordB
      by_cases ht : t = []
      · subst ht
        exact absurd e.symm h0
      · rw [if_neg ht]
        exact e
/-- The document's answer: what the word says, if that has this word. -/
theorem refUn_eq (l : List UInt8) : unwordB l = if l = [37] then some [] else if l = [] ∨ wordB (looseB l) ≠ l then none else some (looseB l) := by
  by_cases h1 : l = [37]
  · subst h1; rfl
  · rw [if_neg h1]
    by_cases h0 : l = []
    · subst h0; rfl
    · by_cases hw : wordB (looseB l) = l
      · rw [if_neg (by rintro (e | e); exact h0 e; exact e hw)]
        have := unword_word (looseB l)
        rw [hw] at this
        exact this
      · rw [if_pos (.inr hw)]
        cases hu : unwordB l with
        | none => rfl
        | some t =>
          exfalso
          have e := unword_sound hu
          have ht : t ≠ [] := by
            intro ht
            subst ht
            exact h1 e.symm
          unfold wordB at e
          rw [if_neg ht] at e
          have e2 := loose_flat t
          rw [e] at e2
          apply hw
          rw [e2]
          unfold wordB
          rw [if_neg ht]
          exact e

/-- The pieces of a text between its slashes, behind cur. -/
def pieces : List UInt8 → List UInt8 → List (List UInt8)
  | cur, [] => [cur]
  | cur, b :: t => if b = 47 then cur :: pieces [] t else pieces (cur ++ [b]) t
theorem pieces_cut : ∀ (l cur : List UInt8), pieces cur l = if (cut47 l).2.2 then (cur ++ (cut47 l).1) :: pieces [] (cut47 l).2.1 else [cur ++ (cut47 l).1]
  | [], cur => by simp [pieces, cut47]
  | b :: t, cur => by
    rw [pieces, cut47]
    by_cases hb : b = 47
    · rw [if_pos hb, if_pos hb]; simp
    · rw [if_neg hb, if_neg hb, pieces_cut t (cur ++ [b])]
      simp
theorem pieces_key : ∀ (x : List UInt8), x.all keyByte = true → pieces [] x = [x] := fun x h => by
  rw [pieces_cut, cut_none x h]; simp
theorem pieces_join : ∀ (t : List ByteArray) (x : ByteArray), (∀ s ∈ x :: t, keyB s.data.toList = true) → pieces [] (x.data.toList ++ t.flatMap (fun s => 47 :: s.data.toList)) = (x :: t).map (fun s => s.data.toList)
  | [], x, h => by
    simp only [List.flatMap_nil, List.append_nil, List.map_cons, List.map_nil]
    exact pieces_key _ (key_all (h x (by simp))).1
  | y :: t, x, h => by
    rw [List.flatMap_cons, List.cons_append, pieces_cut, cut_at _ _ (key_all (h x (by simp))).1]
    simp only [if_true, List.nil_append, List.map_cons]
    rw [pieces_join t y (fun s hs => h s (by simp [hs]))]
    rfl
theorem cut47_back : ∀ l : List UInt8, l = if (cut47 l).2.2 then (cut47 l).1 ++ 47 :: (cut47 l).2.1 else (cut47 l).1
  | [] => rfl
  | b :: t => by
    rw [cut47]
    by_cases hb : b = 47
    · rw [if_pos hb]; simp [hb]
    · rw [if_neg hb]
      have h := cut47_back t
      simp only
      split
      · next h2 => rw [if_pos h2] at h; rw [List.cons_append, ← h]
      · next h2 => rw [if_neg h2] at h; rw [← h]
/-- What is split has that text. -/
theorem splitGo_sound : ∀ (n : Nat) (acc : List (List UInt8)) (rest : List UInt8) (L : List (List UInt8)), acc.length ≤ 6 → splitGo n acc rest = some L → ∃ M, L = acc ++ M ∧ L.length ≤ 6 ∧ (∀ k ∈ M, keyB k = true) ∧ M.flatMap (fun k => 47 :: k) = 47 :: rest
  | 0, _, _, _, _, h => by simp [splitGo] at h
  | n + 1, acc, rest, L, h6, h => by
    rw [splitGo] at h
    by_cases h1 : acc.length = 6 ∨ keyB (cut47 rest).1 = false
    · rw [if_pos h1] at h; cases h
    · rw [if_neg h1] at h
      have hk : keyB (cut47 rest).1 = true := by
        cases hh : keyB (cut47 rest).1
        · exact absurd (.inr hh) h1
        · rfl
      have hb := cut47_back rest
      by_cases hm : (cut47 rest).2.2 = true
      · rw [if_pos hm] at h hb
        obtain ⟨M, hL, hl, hks, hj⟩ := splitGo_sound n _ _ _ (by rw [List.length_append, List.length_singleton]; omega) h
        refine ⟨(cut47 rest).1 :: M, by rw [hL]; simp, hl, ?_, ?_⟩
        · intro q hq
          rcases List.mem_cons.1 hq with e | e
          · rw [e]; exact hk
          · exact hks q e
        · rw [List.flatMap_cons, hj]
          exact congrArg (47 :: ·) hb.symm
      · rw [if_neg hm] at h hb
        cases h
        refine ⟨[(cut47 rest).1], rfl, by rw [List.length_append, List.length_singleton]; omega, by simpa using hk, ?_⟩
        simp only [List.flatMap_cons, List.flatMap_nil, List.append_nil]
        exact congrArg (47 :: ·) hb.symm
theorem keysOf_all (L : List (List UInt8)) (h6 : L.length ≤ 6) (h : ∀ k ∈ L, keyB k = true) : pathB (keysOf L) = true := by
  unfold pathB keysOf
  simp only [List.length_map, List.all_map, Bool.and_eq_true, decide_eq_true_eq, List.all_eq_true]
  exact ⟨h6, fun k hk => h k hk⟩
theorem keysOf_flat (L : List (List UInt8)) : (keysOf L).flatMap (fun s => 47 :: s.data.toList) = L.flatMap (fun k => 47 :: k) := by
  unfold keysOf
  rw [List.flatMap_map]
theorem keysOf_nil {L : List (List UInt8)} : keysOf L = [] ↔ L = [] := by unfold keysOf; simp
theorem prefix47 {l : List UInt8} (h : Lib.hasPrefix l [47] = true) : l = 47 :: l.drop 1 := by
  cases l with
  | nil => simp [Lib.hasPrefix] at h
  | cons b t =>
    have : 47 = b := by simpa [Lib.hasPrefix] using h
    rw [← this]; rfl
theorem split_sound {s : List UInt8} {L : List (List UInt8)} (h : splitB s = some L) : pathB (keysOf L) = true ∧ joinB (keysOf L) = s := by
  unfold splitB at h
  by_cases hp : Lib.hasPrefix s [47] = true
  · rw [if_pos hp] at h
    have hs := prefix47 hp
    by_cases h0 : s.drop 1 = []
    · rw [if_pos h0] at h
      cases h
      refine ⟨rfl, ?_⟩
      rw [hs, h0]
      rfl
    · rw [if_neg h0] at h
      obtain ⟨M, hL, hl, hk, hj⟩ := splitGo_sound 8 [] _ L (by simp) h
      rw [List.nil_append] at hL
      subst hL
      refine ⟨keysOf_all L hl hk, ?_⟩
      unfold joinB
      have hne : keysOf L ≠ [] := fun e => by
        rw [keysOf_nil] at e
        subst e
        cases hj
      rw [if_neg hne, keysOf_flat, hj]
      exact hs.symm
  · rw [if_neg hp] at h; cases h
/-- The document's answer: what the text says, if that has this text. -/
theorem refSplit_eq (s : List UInt8) (h1 : s ≠ [47]) : splitB s = if pathB (keysOf ((pieces [] (s.drop 1)).take 7)) = true ∧ joinB (keysOf ((pieces [] (s.drop 1)).take 7)) = s then some ((pieces [] (s.drop 1)).take 7) else none := by
  by_cases hc : pathB (keysOf ((pieces [] (s.drop 1)).take 7)) = true ∧ joinB (keysOf ((pieces [] (s.drop 1)).take 7)) = s
  · rw [if_pos hc]
    have := split_join hc.1
    rw [hc.2] at this
    rw [this]
    congr 1
    unfold keysOf
    rw [List.map_map]
    exact List.map_id _
  · rw [if_neg hc]
    cases hs : splitB s with
    | none => rfl
    | some L =>
      exfalso
      obtain ⟨a1, a2⟩ := split_sound hs
      apply hc
      obtain ⟨hl6, hk6⟩ := path_keys a1
      have hne : keysOf L ≠ [] := fun e => by
        rw [e] at a2
        exact h1 a2.symm
      have hp : pieces [] (s.drop 1) = L := by
        rw [← a2]
        unfold joinB
        rw [if_neg hne]
        cases hK : keysOf L with
        | nil => exact absurd hK hne
        | cons x t =>
          rw [List.flatMap_cons, List.cons_append, List.drop_succ_cons, List.drop_zero, pieces_join t x (by rw [← hK]; exact hk6), ← hK]
          unfold keysOf
          rw [List.map_map]
          exact List.map_id _
      have hlen : (keysOf L).length = L.length := by simp [keysOf]
      rw [hp, List.take_of_length_le (by omega)]
      exact ⟨a1, a2⟩
end Go.Proofs.YtpepgoelnagoaaaGreatDoor
namespace Go.Proofs.YtpepgoelnagoaaaGreatDoor

/-- The bytes behind a rune's first one. -/
def conts : Nat → List UInt8 → Nat → Option Nat
  | 0, _, c => some c
  | _ + 1, [], _ => none
  | m + 1, b :: t, c => if b.toNat < 128 ∨ 192 ≤ b.toNat then none else conts m t (64 * c + (b.toNat - 128))
/-- A rune's first byte: how many bytes, what it brings, the least that may come out. -/
def lead (b : Nat) : Option (Nat × Nat × Nat) :=
  if b < 128 then some (1, b, 0) else if 192 ≤ b ∧ b < 224 then some (2, b - 192, 128) else if 224 ≤ b ∧ b < 240 then some (3, b - 224, 2048) else if 240 ≤ b ∧ b < 248 then some (4, b - 240, 65536) else none
def badRune (r least : Nat) : Prop := r < least ∨ 1114111 < r ∨ (55296 ≤ r ∧ r ≤ 57343)
instance (r least : Nat) : Decidable (badRune r least) := by unfold badRune; infer_instance
def rune1 : List UInt8 → Option (Nat × Nat)
  | [] => none
  | b :: t => match lead b.toNat with
    | none => none
    | some (n, c, least) => if t.length + 1 < n then none else match conts (n - 1) t c with
      | none => none
      | some r => if badRune r least then none else some (r, n)

set_option maxRecDepth 100000 in
set_option maxHeartbeats 4000000 in
theorem rune1_eq (b : UInt8) (t : List UInt8) : rune1 (b :: t) = if Lib.decodeL (b :: t) = (65533, 1) then none else some (Lib.decodeL (b :: t)) := by
  have hb : b.toNat < 256 := b.toNat_lt
  rw [Lib.decodeL_N]
  unfold rune1 lead
  simp only [List.length_cons, List.getD_cons_zero, List.getD_cons_succ]
  by_cases h1 : b.toNat < 128
  · have e : (b.toNat, 1) ≠ (65533, 1) := by intro h; have h' := congrArg Prod.fst h; simp only at h'; omega
    have e2 : Lib.decodeN (t.length + 1) b.toNat (t.getD 0 0).toNat (t.getD 1 0).toNat (t.getD 2 0).toNat = (b.toNat, 1) := by unfold Lib.decodeN; rw [if_pos h1]
    rw [e2, if_neg e, if_pos h1]
    simp only [conts, Nat.sub_self]
    rw [if_neg (by omega)]
    exact if_neg (by unfold badRune; omega)
  · rw [if_neg h1]
    by_cases h2 : 192 ≤ b.toNat ∧ b.toNat < 224
    · rw [if_pos h2]
      simp only
      match t with
      | [] =>
        rw [if_pos (by simp)]
        have : Lib.decodeN 1 b.toNat 0 0 0 = (65533, 1) := by
          unfold Lib.decodeN; repeat' split
          all_goals first | rfl | (exfalso; omega)
        simp [this]
      | b1 :: t' =>
        have hb1 : b1.toNat < 256 := b1.toNat_lt
        rw [if_neg (by simp)]
        simp only [conts, List.getD_cons_zero, List.getD_cons_succ, Nat.reduceSub]
        generalize (t'.getD 0 0).toNat = x2
        generalize (t'.getD 1 0).toNat = x3
        by_cases c1 : b1.toNat < 128 ∨ 192 ≤ b1.toNat
        · rw [if_pos c1]
          have : Lib.decodeN ((b1 :: t').length + 1) b.toNat b1.toNat x2 x3 = (65533, 1) := by
            unfold Lib.decodeN; repeat' split
            all_goals first | rfl | (exfalso; omega)
          rw [this, if_pos rfl]
        · rw [if_neg c1]
          simp only
          by_cases c2 : badRune (64 * (b.toNat - 192) + (b1.toNat - 128)) 128
          · rw [if_pos c2]
            have : Lib.decodeN ((b1 :: t').length + 1) b.toNat b1.toNat x2 x3 = (65533, 1) := by
              unfold badRune at c2
              unfold Lib.decodeN; repeat' split
              all_goals first | rfl | (exfalso; omega)
            rw [this, if_pos rfl]
          · rw [if_neg c2]
            have : Lib.decodeN ((b1 :: t').length + 1) b.toNat b1.toNat x2 x3 = (64 * (b.toNat - 192) + (b1.toNat - 128), 2) := by
              unfold badRune at c2
              simp only [List.length_cons]
              unfold Lib.decodeN; repeat' split
              all_goals first | (exfalso; omega) | (rw [Prod.mk.injEq]; omega)
            rw [this, if_neg (by intro h; have h' := congrArg Prod.snd h; simp only at h'; omega)]
    · rw [if_neg h2]
      by_cases h3 : 224 ≤ b.toNat ∧ b.toNat < 240
      · rw [if_pos h3]
        simp only
        match t with
        | [] =>
          rw [if_pos (by simp)]
          have : Lib.decodeN 1 b.toNat 0 0 0 = (65533, 1) := by
            unfold Lib.decodeN; repeat' split
            all_goals first | rfl | (exfalso; omega)
          simp [this]
        | [b1] =>
          rw [if_pos (by simp)]
          have : Lib.decodeN 2 b.toNat b1.toNat 0 0 = (65533, 1) := by
            unfold Lib.decodeN; repeat' split
            all_goals first | rfl | (exfalso; omega)
          simp [this]
        | b1 :: b2 :: t' =>
          have hb1 : b1.toNat < 256 := b1.toNat_lt
          have hb2 : b2.toNat < 256 := b2.toNat_lt
          rw [if_neg (by simp)]
          simp only [conts, List.getD_cons_zero, List.getD_cons_succ, Nat.reduceSub]
          generalize (t'.getD 0 0).toNat = x3
          by_cases c1 : b1.toNat < 128 ∨ 192 ≤ b1.toNat
          · rw [if_pos c1]
            have : Lib.decodeN ((b1 :: b2 :: t').length + 1) b.toNat b1.toNat b2.toNat x3 = (65533, 1) := by
              unfold Lib.decodeN; repeat' split
              all_goals first | rfl | (exfalso; omega)
            rw [this, if_pos rfl]
          · rw [if_neg c1]
            by_cases c2 : b2.toNat < 128 ∨ 192 ≤ b2.toNat
            · rw [if_pos c2]
              have : Lib.decodeN ((b1 :: b2 :: t').length + 1) b.toNat b1.toNat b2.toNat x3 = (65533, 1) := by
                unfold Lib.decodeN; repeat' split
                all_goals first | rfl | (exfalso; omega)
              rw [this, if_pos rfl]
            · rw [if_neg c2]
              simp only
              by_cases c3 : badRune (64 * (64 * (b.toNat - 224) + (b1.toNat - 128)) + (b2.toNat - 128)) 2048
              · rw [if_pos c3]
                have : Lib.decodeN ((b1 :: b2 :: t').length + 1) b.toNat b1.toNat b2.toNat x3 = (65533, 1) := by
                  unfold badRune at c3
                  unfold Lib.decodeN; repeat' split
                  all_goals first | rfl | (exfalso; omega)
                rw [this, if_pos rfl]
              · rw [if_neg c3]
                have : Lib.decodeN ((b1 :: b2 :: t').length + 1) b.toNat b1.toNat b2.toNat x3 = (64 * (64 * (b.toNat - 224) + (b1.toNat - 128)) + (b2.toNat - 128), 3) := by
                  unfold badRune at c3
                  simp only [List.length_cons]
                  unfold Lib.decodeN; repeat' split
                  all_goals first | (exfalso; omega) | (rw [Prod.mk.injEq]; omega)
                rw [this, if_neg (by intro h; have h' := congrArg Prod.snd h; simp only at h'; omega)]
      · rw [if_neg h3]
        by_cases h4 : 240 ≤ b.toNat ∧ b.toNat < 248
        · rw [if_pos h4]
          simp only
          match t with
          | [] =>
            rw [if_pos (by simp)]
            have : Lib.decodeN 1 b.toNat 0 0 0 = (65533, 1) := by
              unfold Lib.decodeN; repeat' split
              all_goals first | rfl | (exfalso; omega)
            simp [this]
          | [b1] =>
            rw [if_pos (by simp)]
            have : Lib.decodeN 2 b.toNat b1.toNat 0 0 = (65533, 1) := by
              unfold Lib.decodeN; repeat' split
              all_goals first | rfl | (exfalso; omega)
            simp [this]
          | [b1, b2] =>
            rw [if_pos (by simp)]
            have : Lib.decodeN 3 b.toNat b1.toNat b2.toNat 0 = (65533, 1) := by
              unfold Lib.decodeN; repeat' split
              all_goals first | rfl | (exfalso; omega)
            simp [this]
          | b1 :: b2 :: b3 :: t' =>
            have hb1 : b1.toNat < 256 := b1.toNat_lt
            have hb2 : b2.toNat < 256 := b2.toNat_lt
            have hb3 : b3.toNat < 256 := b3.toNat_lt
            rw [if_neg (by simp)]
            simp only [conts, List.getD_cons_zero, List.getD_cons_succ, Nat.reduceSub]
            by_cases c1 : b1.toNat < 128 ∨ 192 ≤ b1.toNat
            · rw [if_pos c1]
              have : Lib.decodeN ((b1 :: b2 :: b3 :: t').length + 1) b.toNat b1.toNat b2.toNat b3.toNat = (65533, 1) := by
                unfold Lib.decodeN; repeat' split
                all_goals first | rfl | (exfalso; omega)
              rw [this, if_pos rfl]
            · rw [if_neg c1]
              by_cases c2 : b2.toNat < 128 ∨ 192 ≤ b2.toNat
              · rw [if_pos c2]
                have : Lib.decodeN ((b1 :: b2 :: b3 :: t').length + 1) b.toNat b1.toNat b2.toNat b3.toNat = (65533, 1) := by
                  unfold Lib.decodeN; repeat' split
                  all_goals first | rfl | (exfalso; omega)
                rw [this, if_pos rfl]
              · rw [if_neg c2]
                by_cases c3 : b3.toNat < 128 ∨ 192 ≤ b3.toNat
                · rw [if_pos c3]
                  have : Lib.decodeN ((b1 :: b2 :: b3 :: t').length + 1) b.toNat b1.toNat b2.toNat b3.toNat = (65533, 1) := by
                    unfold Lib.decodeN; repeat' split
                    all_goals first | rfl | (exfalso; omega)
                  rw [this, if_pos rfl]
                · rw [if_neg c3]
                  simp only
                  by_cases c4 : badRune (64 * (64 * (64 * (b.toNat - 240) + (b1.toNat - 128)) + (b2.toNat - 128)) + (b3.toNat - 128)) 65536
                  · rw [if_pos c4]
                    have : Lib.decodeN ((b1 :: b2 :: b3 :: t').length + 1) b.toNat b1.toNat b2.toNat b3.toNat = (65533, 1) := by
                      unfold badRune at c4
                      unfold Lib.decodeN; repeat' split
                      all_goals first | rfl | (exfalso; omega)
                    rw [this, if_pos rfl]
                  · rw [if_neg c4]
                    have : Lib.decodeN ((b1 :: b2 :: b3 :: t').length + 1) b.toNat b1.toNat b2.toNat b3.toNat = (64 * (64 * (64 * (b.toNat - 240) + (b1.toNat - 128)) + (b2.toNat - 128)) + (b3.toNat - 128), 4) := by
                      unfold badRune at c4
                      simp only [List.length_cons]
                      unfold Lib.decodeN; repeat' split
                      all_goals first | (exfalso; omega) | (rw [Prod.mk.injEq]; omega)
                    rw [this, if_neg (by intro h; have h' := congrArg Prod.snd h; simp only at h'; omega)]
        · rw [if_neg h4]
          have : Lib.decodeN (t.length + 1) b.toNat (t.getD 0 0).toNat (t.getD 1 0).toNat (t.getD 2 0).toNat = (65533, 1) := by
            unfold Lib.decodeN; repeat' split
            all_goals first | rfl | (exfalso; omega)
          rw [this, if_pos rfl]

def kr (r : Nat) : Bool := decide (32 ≤ r) && decide (r ≠ 47)
theorem rune_none {s : ByteArray} {pos : Nat} (h : pos < s.size) (hr : rune1 (s.data.toList.drop pos) = none) : Lib.validD (s.data.toList.drop pos) = false := by
  have hl : s.data.toList.length = s.size := (Lib.size_eq s).symm
  rw [List.drop_eq_getElem_cons (by omega)] at hr ⊢
  rw [rune1_eq] at hr
  rw [Lib.validD_step _ (by simp)]
  split at hr
  · next h => rw [h]; rfl
  · cases hr
theorem rune_step {s : ByteArray} {pos r n : Nat} (h : pos < s.size) (hr : rune1 (s.data.toList.drop pos) = some (r, n)) :
    1 ≤ n ∧ pos + n ≤ s.size ∧ Lib.validD (s.data.toList.drop pos) = Lib.validD (s.data.toList.drop (pos + n)) ∧ (s.data.toList.drop pos).all keyByte = (kr r && (s.data.toList.drop (pos + n)).all keyByte) := by
  have hl : s.data.toList.length = s.size := (Lib.size_eq s).symm
  have hne : s.data.toList.drop pos ≠ [] := by
    intro e
    have := congrArg List.length e
    simp [List.length_drop] at this
    omega
  have he : Lib.decodeL (s.data.toList.drop pos) = (r, n) ∧ ¬ (Lib.decodeL (s.data.toList.drop pos) = (65533, 1)) := by
    rw [List.drop_eq_getElem_cons (by omega)] at hr ⊢
    rw [rune1_eq] at hr
    split at hr
    · cases hr
    · next h => exact ⟨Option.some.inj hr, h⟩
  have hv := Lib.validD_step _ hne
  have hw := Lib.decodeL_width (s.data.toList.drop pos)
  rw [he.1] at hv hw
  have hd := Lib.decodeL_drop s pos
  rw [he.1] at hd
  rw [if_neg (by rintro ⟨e1, e2⟩; exact he.2 (by rw [he.1, Prod.mk.injEq]; exact ⟨e1, e2⟩)), List.drop_drop] at hv
  by_cases ha : (s[pos]'h).toNat < 128
  · have hdec := decode_ascii s pos h ha
    rw [← hd] at hdec
    cases hdec
    refine ⟨Nat.le_refl _, by omega, hv, ?_⟩
    rw [all_one keyByte s pos h]
    rfl
  · obtain ⟨a1, a2, a3, a4⟩ := all_skip keyByte (fun b hb => by unfold keyByte; simp; omega) s pos h (by rw [getD_byte s pos h]; omega)
    rw [← hd] at a1 a2 a3 a4
    refine ⟨a3, a2, hv, ?_⟩
    rw [a1]
    have : kr r = true := by unfold kr; simp at a4 ⊢; omega
    rw [this, Bool.true_and]
end Go.Proofs.YtpepgoelnagoaaaGreatDoor
