/-
  PLAINLY: the three orders; what was joined is split as it was.
-/
import Derived.Test.YtcpigbojebjlaaaDoorPlace
import Derived.Test.YtcpigbojebjlaaaDoorJoin
import Derived.Test.YtcpigbojebjlaaaDoorSplit
namespace Go.Proofs.YtcpigbojebjlaaaDoor

/-- An order by -1, 0, 1. -/
structure Ord {α : Type} (f : α → α → Int) : Prop where
  range : ∀ a b, f a b = -1 ∨ f a b = 0 ∨ f a b = 1
  anti : ∀ a b, f a b = - f b a
  eq : ∀ a b, f a b = 0 → a = b
  trans : ∀ a b c, f a b = -1 → f b c = -1 → f a c = -1
theorem Ord.refl {α : Type} {f : α → α → Int} (h : Ord f) (a : α) : f a a = 0 := by have := h.anti a a; omega

theorem cb_range : ∀ l m : List UInt8, Lib.compareBytes l m = -1 ∨ Lib.compareBytes l m = 0 ∨ Lib.compareBytes l m = 1
  | [], [] => by simp [Lib.compareBytes]
  | [], _ :: _ => by simp [Lib.compareBytes]
  | _ :: _, [] => by simp [Lib.compareBytes]
  | a :: l, b :: m => by
    rw [Lib.compareBytes]
    split
    · simp
    · split
      · simp
      · exact cb_range l m
theorem cb_anti : ∀ l m : List UInt8, Lib.compareBytes l m = - Lib.compareBytes m l
  | [], [] => rfl
  | [], _ :: _ => rfl
  | _ :: _, [] => rfl
  | a :: l, b :: m => by
    rw [Lib.compareBytes, Lib.compareBytes]
    by_cases h1 : a < b
    · have h2 : ¬ b < a := fun h => absurd (UInt8.lt_iff_toNat_lt.1 h) (by have := UInt8.lt_iff_toNat_lt.1 h1; omega)
      rw [if_pos h1, if_neg h2, if_pos h1]
    · rw [if_neg h1]
      by_cases h2 : b < a
      · rw [if_pos h2, if_pos h2]; rfl
      · rw [if_neg h2, if_neg h2, if_neg h1]
        exact cb_anti l m
theorem u8_eq {a b : UInt8} (h1 : ¬ a < b) (h2 : ¬ b < a) : a = b := by
  apply UInt8.toNat_inj.1
  rw [UInt8.lt_iff_toNat_lt] at h1 h2
  omega
theorem cb_eq : ∀ l m : List UInt8, Lib.compareBytes l m = 0 → l = m
  | [], [], _ => rfl
  | [], _ :: _, h => by simp [Lib.compareBytes] at h
  | _ :: _, [], h => by simp [Lib.compareBytes] at h
  | a :: l, b :: m, h => by
    rw [Lib.compareBytes] at h
    by_cases h1 : a < b
    · rw [if_pos h1] at h; cases h
    · rw [if_neg h1] at h
      by_cases h2 : b < a
      · rw [if_pos h2] at h; cases h
      · rw [if_neg h2] at h
        rw [u8_eq h1 h2, cb_eq l m h]
theorem cb_trans : ∀ l m k : List UInt8, Lib.compareBytes l m = -1 → Lib.compareBytes m k = -1 → Lib.compareBytes l k = -1
  | [], [], _, h, _ => by simp [Lib.compareBytes] at h
  | _ :: _, [], _, h, _ => by simp [Lib.compareBytes] at h
  | _, _ :: _, [], _, h => by simp [Lib.compareBytes] at h
  | [], _ :: _, _ :: _, _, _ => rfl
  | a :: l, b :: m, c :: k, h1, h2 => by
    rw [Lib.compareBytes] at h1 h2 ⊢
    simp only [UInt8.lt_iff_toNat_lt] at h1 h2 ⊢
    by_cases ab : a.toNat < b.toNat
    · by_cases bc : b.toNat < c.toNat
      · rw [if_pos (by omega)]
      · rw [if_neg bc] at h2
        by_cases cb : c.toNat < b.toNat
        · rw [if_pos cb] at h2; cases h2
        · rw [if_pos (by omega)]
    · rw [if_neg ab] at h1
      by_cases ba : b.toNat < a.toNat
      · rw [if_pos ba] at h1; cases h1
      · rw [if_neg ba] at h1
        by_cases bc : b.toNat < c.toNat
        · rw [if_pos (by omega)]
        · rw [if_neg bc] at h2
          by_cases cb : c.toNat < b.toNat
          · rw [if_pos cb] at h2; cases h2
          · rw [if_neg cb] at h2
            rw [if_neg (by omega), if_neg (by omega)]
            exact cb_trans l m k h1 h2
theorem ba_eq {a b : ByteArray} (h : a.data.toList = b.data.toList) : a = b := ByteArray.ext (Array.toList_inj.1 h)
theorem ord_B : Ord cmpB := ⟨fun _ _ => cb_range _ _, fun _ _ => cb_anti _ _, fun _ _ h => ba_eq (cb_eq _ _ h), fun _ _ _ => cb_trans _ _ _⟩
theorem ord_I : Ord cmpI := by
  refine ⟨fun a b => ?_, fun a b => ?_, fun a b h => ?_, fun a b c h1 h2 => ?_⟩
  · unfold cmpI; split <;> (try split) <;> simp
  · unfold cmpI; split <;> split <;> (try split) <;> omega
  · unfold cmpI at h; split at h <;> (try split at h) <;> omega
  · unfold cmpI at *; split at h1 <;> (try split at h1) <;> split at h2 <;> (try split at h2) <;> (try omega) <;> (rw [if_pos (by omega)])
theorem cp_range : ∀ l m : List ByteArray, cmpP l m = -1 ∨ cmpP l m = 0 ∨ cmpP l m = 1
  | [], [] => by simp [cmpP]
  | [], _ :: _ => by simp [cmpP]
  | _ :: _, [] => by simp [cmpP]
  | a :: l, b :: m => by
    rw [cmpP]
    split
    · exact cp_range l m
    · exact ord_B.range a b
theorem cp_anti : ∀ l m : List ByteArray, cmpP l m = - cmpP m l
  | [], [] => rfl
  | [], _ :: _ => rfl
  | _ :: _, [] => rfl
  | a :: l, b :: m => by
    rw [cmpP, cmpP]
    have h := ord_B.anti a b
    by_cases h0 : cmpB a b = 0
    · rw [if_pos h0, if_pos (by omega)]
      exact cp_anti l m
    · rw [if_neg h0, if_neg (by omega)]
      exact h
theorem cp_eq : ∀ l m : List ByteArray, cmpP l m = 0 → l = m
  | [], [], _ => rfl
  | [], _ :: _, h => by simp [cmpP] at h
  | _ :: _, [], h => by simp [cmpP] at h
  | a :: l, b :: m, h => by
    rw [cmpP] at h
    by_cases h0 : cmpB a b = 0
    · rw [if_pos h0] at h
      rw [ord_B.eq a b h0, cp_eq l m h]
    · rw [if_neg h0] at h
      exact (h0 h).elim
theorem cp_trans : ∀ l m k : List ByteArray, cmpP l m = -1 → cmpP m k = -1 → cmpP l k = -1
  | [], [], _, h, _ => by simp [cmpP] at h
  | _ :: _, [], _, h, _ => by simp [cmpP] at h
  | _, _ :: _, [], _, h => by simp [cmpP] at h
  | [], _ :: _, _ :: _, _, _ => rfl
  | a :: l, b :: m, c :: k, h1, h2 => by
    rw [cmpP] at h1 h2 ⊢
    by_cases ab : cmpB a b = 0
    · have e1 := ord_B.eq a b ab
      subst e1
      rw [if_pos ab] at h1
      by_cases bc : cmpB a c = 0
      · rw [if_pos bc] at h2 ⊢
        exact cp_trans l m k h1 h2
      · rw [if_neg bc] at h2 ⊢
        exact h2
    · rw [if_neg ab] at h1
      by_cases bc : cmpB b c = 0
      · have e1 := ord_B.eq b c bc
        subst e1
        rw [if_neg ab]
        exact h1
      · rw [if_neg bc] at h2
        have h3 := ord_B.trans a b c h1 h2
        rw [if_neg (by omega)]
        exact h3
theorem ord_P : Ord cmpP := ⟨cp_range, cp_anti, cp_eq, cp_trans⟩

theorem cmpL_eq (l m : List ByteArray) (x y : Int) (s t : ByteArray) : cmpL l m x y s t = if cmpP l m = 0 then (if cmpI x y = 0 then cmpB s t else cmpI x y) else cmpP l m := by
  unfold cmpL
  rw [orL, orL, orL, orL]
  split
  · split
    · split
      · rename_i h; exact h.symm
      · rfl
    · rfl
  · rfl
theorem cl_range (l m : List ByteArray) (x y : Int) (s t : ByteArray) : cmpL l m x y s t = -1 ∨ cmpL l m x y s t = 0 ∨ cmpL l m x y s t = 1 := by
  rw [cmpL_eq]
  split
  · split
    · exact ord_B.range s t
    · exact ord_I.range x y
  · exact ord_P.range l m
theorem cl_anti (l m : List ByteArray) (x y : Int) (s t : ByteArray) : cmpL l m x y s t = - cmpL m l y x t s := by
  rw [cmpL_eq, cmpL_eq]
  have h1 := ord_P.anti l m
  have h2 := ord_I.anti x y
  have h3 := ord_B.anti s t
  by_cases p : cmpP l m = 0
  · have p' : cmpP m l = 0 := by omega
    rw [if_pos p, if_pos p']
    by_cases q : cmpI x y = 0
    · have q' : cmpI y x = 0 := by omega
      rw [if_pos q, if_pos q']; exact h3
    · have q' : ¬ cmpI y x = 0 := by omega
      rw [if_neg q, if_neg q']; exact h2
  · have p' : ¬ cmpP m l = 0 := by omega
    rw [if_neg p, if_neg p']; exact h1
theorem cl_refl (l : List ByteArray) (x : Int) (s : ByteArray) : cmpL l l x x s s = 0 := by have := cl_anti l l x x s s; omega
theorem ord_le {α : Type} {f : α → α → Int} (h : Ord f) {a b : α} (hab : f a b ≤ 0) : f a b = -1 ∨ a = b := by
  rcases h.range a b with e | e | e
  · exact .inl e
  · exact .inr (h.eq a b e)
  · omega
theorem cl_trans (l m k : List ByteArray) (x y z : Int) (s t u : ByteArray) (h1 : cmpL l m x y s t ≤ 0) (h2 : cmpL m k y z t u ≤ 0) : cmpL l k x z s u ≤ 0 := by
  rw [cmpL_eq] at h1 h2 ⊢
  by_cases p1 : cmpP l m = 0
  · have := ord_P.eq l m p1
    subst this
    rw [if_pos p1] at h1
    by_cases p2 : cmpP l k = 0
    · rw [if_pos p2] at h2 ⊢
      by_cases q1 : cmpI x y = 0
      · have := ord_I.eq x y q1
        subst this
        rw [if_pos q1] at h1
        by_cases q2 : cmpI x z = 0
        · rw [if_pos q2] at h2 ⊢
          rcases ord_le ord_B h1 with e1 | e1
          · rcases ord_le ord_B h2 with e2 | e2
            · have := ord_B.trans s t u e1 e2; omega
            · subst e2; exact h1
          · subst e1; exact h2
        · rw [if_neg q2] at h2 ⊢; exact h2
      · rw [if_neg q1] at h1
        by_cases q2 : cmpI y z = 0
        · have := ord_I.eq y z q2
          subst this
          rw [if_neg q1]; exact h1
        · rw [if_neg q2] at h2
          have e1 : cmpI x y = -1 := by rcases ord_I.range x y with e | e | e <;> omega
          have e2 : cmpI y z = -1 := by rcases ord_I.range y z with e | e | e <;> omega
          have := ord_I.trans x y z e1 e2
          rw [if_neg (by omega)]; omega
    · rw [if_neg p2] at h2 ⊢; exact h2
  · rw [if_neg p1] at h1
    by_cases p2 : cmpP m k = 0
    · have := ord_P.eq m k p2
      subst this
      rw [if_neg p1]; exact h1
    · rw [if_neg p2] at h2
      have e1 : cmpP l m = -1 := by rcases ord_P.range l m with e | e | e <;> omega
      have e2 : cmpP m k = -1 := by rcases ord_P.range m k with e | e | e <;> omega
      have := ord_P.trans l m k e1 e2
      rw [if_neg (by omega)]; omega

theorem cp_snoc : ∀ (l : List ByteArray) (k : ByteArray), cmpP l (l ++ [k]) = -1
  | [], _ => rfl
  | a :: l, k => by
    rw [List.cons_append, cmpP, if_pos (ord_B.refl a)]
    exact cp_snoc l k
theorem cl_inner (l : List ByteArray) (k : ByteArray) (x y : Int) (s t : ByteArray) : cmpL l (l ++ [k]) x y s t = -1 := by
  rw [cmpL_eq, if_neg (by rw [cp_snoc]; omega), cp_snoc]

/-! ### Joined and split -/
theorem cut_none : ∀ x : List UInt8, x.all keyByte = true → cut47 x = (x, [], false)
  | [], _ => rfl
  | b :: t, h => by
    rw [List.all_cons, Bool.and_eq_true] at h
    have hb : b ≠ 47 := fun e => by subst e; exact absurd h.1 (by decide)
    rw [cut47, if_neg hb, cut_none t h.2]
theorem cut_at : ∀ (x r : List UInt8), x.all keyByte = true → cut47 (x ++ 47 :: r) = (x, r, true)
  | [], r, _ => by simp [cut47]
  | b :: t, r, h => by
    rw [List.all_cons, Bool.and_eq_true] at h
    have hb : b ≠ 47 := fun e => by subst e; exact absurd h.1 (by decide)
    rw [List.cons_append, cut47, if_neg hb, cut_at t r h.2]
theorem key_all {x : List UInt8} (h : keyB x = true) : x.all keyByte = true ∧ 1 ≤ x.length := by
  unfold keyB at h
  simp only [Bool.and_eq_true, decide_eq_true_eq] at h
  exact ⟨h.2, h.1.1.1⟩
theorem split_go : ∀ (t : List ByteArray) (x : ByteArray) (acc : List (List UInt8)) (n : Nat), (∀ s ∈ x :: t, keyB s.data.toList = true) → acc.length + t.length ≤ 5 → t.length < n →
    splitGo n acc (x.data.toList ++ t.flatMap (fun s => 47 :: s.data.toList)) = some (acc ++ (x :: t).map (fun s => s.data.toList))
  | [], x, acc, n + 1, hk, ha, _ => by
    have kx := hk x (by simp)
    rw [List.flatMap_nil, List.append_nil, splitGo, cut_none _ (key_all kx).1]
    simp only [kx]
    rw [if_neg (by simp at ha; simp; omega)]
    simp
  | y :: t, x, acc, n + 1, hk, ha, hn => by
    have kx := hk x (by simp)
    have e : x.data.toList ++ (y :: t).flatMap (fun s => 47 :: s.data.toList) = x.data.toList ++ 47 :: (y.data.toList ++ t.flatMap (fun s => 47 :: s.data.toList)) := by simp
    rw [e, splitGo, cut_at _ _ (key_all kx).1]
    simp only [kx]
    rw [if_neg (by simp at ha; simp; omega)]
    simp only [if_true]
    rw [split_go t y (acc ++ [x.data.toList]) n (fun s hs => hk s (by simp at hs ⊢; right; exact hs)) (by simp at ha ⊢; omega) (by simp at hn; omega)]
    simp
theorem path_keys {l : List ByteArray} (h : pathB l = true) : l.length ≤ 6 ∧ ∀ s ∈ l, keyB s.data.toList = true := by
  unfold pathB at h
  rw [Bool.and_eq_true, decide_eq_true_eq, List.all_eq_true] at h
  exact h
theorem split_join {l : List ByteArray} (h : pathB l = true) : splitB (joinB l) = some (l.map (fun s => s.data.toList)) := by
  obtain ⟨h6, hk⟩ := path_keys h
  cases l with
  | nil => rfl
  | cons x t =>
    have e : joinB (x :: t) = 47 :: (x.data.toList ++ t.flatMap (fun s => 47 :: s.data.toList)) := by simp [joinB]
    have hx := (key_all (hk x (by simp))).2
    rw [e, splitB]
    have hp : Lib.hasPrefix (47 :: (x.data.toList ++ t.flatMap (fun s => 47 :: s.data.toList))) [47] = true := by simp [Lib.hasPrefix]
    rw [if_pos hp, List.drop_one, List.tail_cons, if_neg (by intro e0; have := congrArg List.length e0; simp at this; simp [this.1] at hx)]
    rw [split_go t x [] 8 hk (by simp at h6 ⊢; omega) (by simp at h6; omega)]
    simp
theorem keysOf_map (l : List ByteArray) : keysOf (l.map (fun s => s.data.toList)) = l := by
  unfold keysOf
  rw [List.map_map]
  conv => rhs; rw [← List.map_id l]
  apply List.map_congr_left
  intro s _
  exact ba_eq rfl
theorem join_inj {l m : List ByteArray} (hl : pathB l = true) (hm : pathB m = true) (h : joinB l = joinB m) : l = m := by
  have e := split_join hl
  rw [h, split_join hm] at e
  simp only [Option.some.injEq] at e
  rw [← keysOf_map l, ← keysOf_map m, e]
theorem join_length {l : List ByteArray} (h : pathB l = true) : (joinB l).length ≤ 400 := by
  obtain ⟨h6, hs⟩ := path_sizes h
  unfold joinB
  split
  · simp
  · have := flatJ_length l hs; omega
end Go.Proofs.YtcpigbojebjlaaaDoor
