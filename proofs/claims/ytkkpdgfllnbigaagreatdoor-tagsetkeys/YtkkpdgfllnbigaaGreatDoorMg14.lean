/-
  RISING LISTS, AND TWO OF THEM RUN TOGETHER (for stage 9: plain, of no seat).
  tagset: a text within a key, plainly: bytes alone.
  tagset: keys and lists of tags, plainly.
  tagset: what the document's OfKey reads out of a key: plainly.
  tagset: what the program's OfKey reads, plainly: a text cut off ahead of the first two noughts, each nought and one in it read as a nought, is the text of the key's tag.
  tagset: a text that may be (110), what a key begins with (263, 161, 211), errors' numbers (20), an element (31).
  tagset: front (131): what the keys of a text's tags begin with.
-/
import Derived.Test.YtkkpdgfllnbigaaGreatDoorMg9
import Derived.Test.YtkkpdgfllnbigaaGreatDoorMg3
import Derived.Test.YtkkpdgfllnbigaaGreatDoorMg13
import Derived.Lib.Replace
import Derived.Lib.IndexMore
import Derived.Lib.ReplaceLaws
import Derived.Test.YtkkpdgfllnbigaaGreatDoorMg7
namespace Go.Proofs.YtkkpdgfllnbigaaGreatDoor.Rise
/-- An order told by -1, 0, 1. -/
structure OrdS {σ : Type} (f : σ → σ → Int) : Prop where
  range : ∀ a b, f a b = -1 ∨ f a b = 0 ∨ f a b = 1
  anti : ∀ a b, f a b = - f b a
  eq : ∀ a b, f a b = 0 → a = b
  trans : ∀ a b c, f a b = -1 → f b c = -1 → f a c = -1
theorem OrdS.refl {σ : Type} {f : σ → σ → Int} (h : OrdS f) (a : σ) : f a a = 0 := by have := h.anti a a; omega
theorem OrdS.ne {σ : Type} {f : σ → σ → Int} (h : OrdS f) {a b : σ} (hl : f a b = -1) : a ≠ b := fun e => by rw [e, h.refl] at hl; omega
variable {α σ : Type} {f : σ → σ → Int} {st : α → σ}
/-- Each one's stamp is ahead of the next ones'. -/
def Up (f : σ → σ → Int) (st : α → σ) (l : List α) : Prop := l.Pairwise (fun x y => f (st x) (st y) = -1)
/-- Two rising lists with the same members are one. -/
theorem Up.same (o : OrdS f) : ∀ {l m : List α}, Up f st l → Up f st m → (∀ x, x ∈ l ↔ x ∈ m) → l = m
  | [], [], _, _, _ => rfl
  | [], y :: m, _, _, h => absurd ((h y).2 (List.mem_cons_self ..)) (by simp)
  | x :: l, [], _, _, h => absurd ((h x).1 (List.mem_cons_self ..)) (by simp)
  | x :: l, y :: m, hl, hm, h => by
    have hl' := List.pairwise_cons.1 hl
    have hm' := List.pairwise_cons.1 hm
    have hxy : x = y := by
      rcases List.mem_cons.1 ((h x).1 (List.mem_cons_self ..)) with e | e
      · exact e
      · rcases List.mem_cons.1 ((h y).2 (List.mem_cons_self ..)) with e' | e'
        · exact e'.symm
        · have h1 := hl'.1 y e'
          have h2 := hm'.1 x e
          have := o.anti (st x) (st y)
          omega
    subst hxy
    congr 1
    refine Up.same o hl'.2 hm'.2 (fun z => ⟨fun hz => ?_, fun hz => ?_⟩)
    · rcases List.mem_cons.1 ((h z).1 (List.mem_cons_of_mem _ hz)) with e | e
      · subst e; exact absurd rfl (o.ne (hl'.1 z hz))
      · exact e
    · rcases List.mem_cons.1 ((h z).2 (List.mem_cons_of_mem _ hz)) with e | e
      · subst e; exact absurd rfl (o.ne (hm'.1 z hz))
      · exact e
/-- The document's way: both lists are gone through side by side. -/
def run (f : σ → σ → Int) (st : α → σ) (inB inO : σ → Bool) : List α → List α → List α
  | [], [] => []
  | [], y :: b => (if inO (st y) then [] else [y]) ++ run f st inB inO [] b
  | x :: a, [] => (if inB (st x) || !inO (st x) then [x] else []) ++ run f st inB inO a []
  | x :: a, y :: b =>
    if f (st x) (st y) ≤ 0 then (if inB (st x) || !inO (st x) then [x] else []) ++ (if inB (st x) then run f st inB inO a b else run f st inB inO a (y :: b))
    else (if inO (st y) then [] else [y]) ++ run f st inB inO (x :: a) b
termination_by a b => a.length + b.length
end Go.Proofs.YtkkpdgfllnbigaaGreatDoor.Rise
namespace Go.Proofs.YtkkpdgfllnbigaaGreatDoor.Tg
open Go.RowKit Go.Shelf
set_option linter.unusedSimpArgs false

/-- A text within a key: each byte 0 as 0 1. -/
def esc : List UInt8 → List UInt8
  | [] => []
  | c :: l => (if c = 0 then [0, 1] else [c]) ++ esc l
theorem esc_len (l : List UInt8) : l.length ≤ (esc l).length ∧ (esc l).length ≤ 2 * l.length := by
  induction l with
  | nil => exact ⟨Nat.le_refl _, Nat.le_refl _⟩
  | cons c l ih =>
    simp only [esc, List.length_append, List.length_cons]
    split <;> simp <;> omega
/-- What the keys of a text's tags begin with. -/
def frB (X : ByteArray) : ByteArray := ⟨(esc X.data.toList ++ [0, 0]).toArray⟩
theorem u8_pos {d : UInt8} (h : d ≠ 0) : (0 : UInt8) < d ∧ ¬ d < 0 := by
  have h1 : d.toNat ≠ 0 := fun e => h (UInt8.toNat_inj.1 (by rw [e]; rfl))
  refine ⟨UInt8.lt_iff_toNat_lt.2 ?_, fun h2 => ?_⟩
  · show 0 < d.toNat
    omega
  · have := UInt8.lt_iff_toNat_lt.1 h2
    have h3 : (0 : UInt8).toNat = 0 := rfl
    omega
theorem u8_01 : (0 : UInt8) < 1 ∧ ¬ (1 : UInt8) < 0 ∧ ¬ (0 : UInt8) < 0 ∧ ¬ (1 : UInt8) < 1 := by decide
theorem esc_order : ∀ (x y a b : List UInt8), Lib.compareBytes (esc x ++ ([0, 0] ++ a)) (esc y ++ ([0, 0] ++ b)) = if Lib.compareBytes x y = 0 then Lib.compareBytes a b else Lib.compareBytes x y
  | [], [], a, b => by simp [esc, Lib.compareBytes, u8_01]
  | [], d :: y, a, b => by
    by_cases hd : d = 0
    · subst hd; simp [esc, Lib.compareBytes, u8_01]
    · simp [esc, hd, Lib.compareBytes, u8_pos hd]
  | c :: x, [], a, b => by
    by_cases hc : c = 0
    · subst hc; simp [esc, Lib.compareBytes, u8_01]
    · simp [esc, hc, Lib.compareBytes, u8_pos hc]
  | c :: x, d :: y, a, b => by
    have ih := esc_order x y a b
    by_cases hc : c = 0
    · subst hc
      by_cases hd : d = 0
      · subst hd
        simp only [esc, if_true, List.append_assoc, List.cons_append, List.nil_append, Lib.compareBytes, u8_01, if_false]
        exact ih
      · simp [esc, hd, Lib.compareBytes, u8_pos hd]
    · by_cases hd : d = 0
      · subst hd; simp [esc, hc, Lib.compareBytes, u8_pos hc]
      · simp only [esc, hc, hd, if_false, List.append_assoc, List.cons_append, List.nil_append, Lib.compareBytes]
        split
        · simp
        · split
          · simp
          · exact ih
theorem frB_list (X a : ByteArray) : (frB X ++ a).data.toList = esc X.data.toList ++ ([0, 0] ++ a.data.toList) := by
  simp [frB]
/-- Does a key begin with a front, and what is behind it? -/
def pre (f k : ByteArray) : Bool := decide (f.size ≤ k.size) && decide (k.extract 0 f.size = f)
def rest (f k : ByteArray) : ByteArray := k.extract f.size k.size
theorem ext_data {a b : ByteArray} (h : a.data.toList = b.data.toList) : a = b := by
  cases a; cases b
  congr 1
  exact Array.toList_inj.1 h
theorem pre_app (f k : ByteArray) : pre f (f ++ k) = true ∧ rest f (f ++ k) = k := by
  have hs : (f ++ k).size = f.size + k.size := ByteArray.size_append
  have h1 : (f ++ k).extract 0 f.size = f := by
    apply ByteArray.ext
    simp
  have h2 : (f ++ k).extract f.size (f ++ k).size = k := by
    have e1 : f.data.extract f.size (f.size + k.size) = #[] := by
      apply Array.ext'
      simp only [Array.toList_extract, List.extract]
      rw [List.drop_of_length_le (by rw [Array.length_toList]; exact Nat.le_refl _)]
      simp
    have e2 : k.data.extract 0 k.size = k.data := by
      have : k.size = k.data.size := rfl
      rw [this]
      simp
    apply ByteArray.ext
    simp [hs]
    rw [e1, e2]
    simp
  refine ⟨?_, h2⟩
  unfold pre
  rw [h1, hs]
  simp
theorem pre_of {f k : ByteArray} (h : pre f k = true) : k = f ++ rest f k := by
  simp only [pre, Bool.and_eq_true, decide_eq_true_eq] at h
  unfold rest
  conv => lhs; rw [show k = k.extract 0 k.size by simp]
  conv => rhs; lhs; rw [← h.2]
  apply ByteArray.ext
  simp
end Go.Proofs.YtkkpdgfllnbigaaGreatDoor.Tg
namespace Go.Proofs.YtkkpdgfllnbigaaGreatDoor.Tg
open Go.RowKit Go.Shelf
set_option linter.unusedSimpArgs false

/-- A tag's key. -/
def tkey (X : ByteArray) (s : St) : ByteArray := frB X ++ keyT s
theorem key_lex (X Y : ByteArray) {s t : St} (hs : stV s = true) (ht : stV t = true) : Pm.cmpB (tkey X s) (tkey Y t) = if Pm.cmpB X Y = 0 then cmpT s t else Pm.cmpB X Y := by
  have h := esc_order X.data.toList Y.data.toList (keyT s).data.toList (keyT t).data.toList
  have hk := cmp_keys hs ht
  unfold Pm.cmpB at hk ⊢
  rw [hk] at h
  unfold tkey
  rw [frB_list, frB_list, h]
/-- Where a key stands to a text's front. -/
theorem key_front (X Y : ByteArray) (s : St) : Pm.cmpB (tkey X s) (frB Y) = -1 ↔ Pm.cmpB X Y = -1 := by
  have h := esc_order X.data.toList Y.data.toList (keyT s).data.toList []
  have h2 : (frB Y).data.toList = esc Y.data.toList ++ ([0, 0] ++ []) := by simp [frB]
  unfold Pm.cmpB tkey
  rw [frB_list, h2, h]
  split
  · rename_i e
    rw [e]
    constructor
    · intro hh
      cases hl : (keyT s).data.toList with
      | nil => rw [hl] at hh; simp [Lib.compareBytes] at hh
      | cons c l => rw [hl] at hh; simp [Lib.compareBytes] at hh
    · intro hh; omega
  · exact Iff.rfl
def zS : St := (0, 0, ⟨#[]⟩, 0, 0)
/-- May a key be a tag's of this text, and whose stamp is it? -/
def tgV (k X : ByteArray) : Bool := txtB X && (pre (frB X) k && okV (rest (frB X) k))
def tgS (k X : ByteArray) : St := if (txtB X && pre (frB X) k) = true then ofT (rest (frB X) k) else zS
theorem tgV_key {X : ByteArray} {s : St} (hX : txtB X = true) (hs : stV s = true) : tgV (tkey X s) X = true ∧ tgS (tkey X s) X = s := by
  obtain ⟨h1, h2⟩ := pre_app (frB X) (keyT s)
  unfold tgV tgS tkey
  rw [h1, h2, hX, okV_key hs]
  exact ⟨rfl, by rw [if_pos (by rfl)]; exact ofT_key hs⟩
theorem tgV_of {k X : ByteArray} (h : tgV k X = true) : k = tkey X (tgS k X) ∧ stV (tgS k X) = true ∧ txtB X = true := by
  simp only [tgV, Bool.and_eq_true] at h
  obtain ⟨hX, hp, ho⟩ := h
  have h1 := okV_of ho
  have h2 := pre_of hp
  have h3 : tgS k X = ofT (rest (frB X) k) := by unfold tgS; rw [hX, hp]; rfl
  rw [h3]
  refine ⟨?_, h1.2, hX⟩
  unfold tkey
  rw [h1.1, ← h2]
/-- May a map's list be a set, and its tags in the order of keys. -/
def mayT (l : List Kv) : Bool := l.all fun x => tgV x.1 x.2
def tgE (x : Kv) : El := (tgS x.1 x.2, x.2)
def tagsL (l : List Kv) : List El := if mayT l = true then l.map tgE else []
def kvT (x : El) : Kv := (tkey x.2 x.1, x.2)
theorem mayT_mem {l : List Kv} (h : mayT l = true) {x : Kv} (hx : x ∈ l) : tgV x.1 x.2 = true := List.all_eq_true.1 h x hx
/-- The orders: by keys (texts, then stamps), and by stamps, then texts. -/
def cmpX (x y : El) : Int := if Pm.cmpB x.2 y.2 = 0 then cmpT x.1 y.1 else Pm.cmpB x.2 y.2
def cmpQ (x y : El) : Int := if cmpT x.1 y.1 = 0 then Pm.cmpB x.2 y.2 else cmpT x.1 y.1
theorem ordS_X : Rise.OrdS cmpX := by
  have T := ord_T; have B := Pm.ord_B
  refine ⟨fun a b => ?_, fun a b => ?_, fun a b h => ?_, fun a b c h k => ?_⟩
  · unfold cmpX; split
    · exact T.range _ _
    · exact B.range _ _
  · unfold cmpX
    have h1 := B.anti a.2 b.2; have h2 := T.anti a.1 b.1
    by_cases e : Pm.cmpB a.2 b.2 = 0
    · rw [if_pos e, if_pos (by omega)]; exact h2
    · rw [if_neg e, if_neg (by omega)]; exact h1
  · unfold cmpX at h
    by_cases e : Pm.cmpB a.2 b.2 = 0
    · rw [if_pos e] at h; exact Prod.ext (T.eq _ _ h) (B.eq _ _ e)
    · rw [if_neg e] at h; exact absurd h e
  · unfold cmpX at h k ⊢
    by_cases e : Pm.cmpB a.2 b.2 = 0
    · rw [if_pos e] at h
      rw [B.eq _ _ e]
      by_cases e2 : Pm.cmpB b.2 c.2 = 0
      · rw [if_pos e2] at k ⊢; exact T.trans _ _ _ h k
      · rw [if_neg e2] at k ⊢; exact k
    · rw [if_neg e] at h
      by_cases e2 : Pm.cmpB b.2 c.2 = 0
      · rw [if_pos e2] at k
        rw [← B.eq _ _ e2, if_neg e]; exact h
      · rw [if_neg e2] at k
        have := B.trans _ _ _ h k
        rw [if_neg (by omega)]; exact this
theorem ordS_Q : Rise.OrdS cmpQ := by
  have T := ord_T; have B := Pm.ord_B
  refine ⟨fun a b => ?_, fun a b => ?_, fun a b h => ?_, fun a b c h k => ?_⟩
  · unfold cmpQ; split
    · exact B.range _ _
    · exact T.range _ _
  · unfold cmpQ
    have h1 := B.anti a.2 b.2; have h2 := T.anti a.1 b.1
    by_cases e : cmpT a.1 b.1 = 0
    · rw [if_pos e, if_pos (by omega)]; exact h1
    · rw [if_neg e, if_neg (by omega)]; exact h2
  · unfold cmpQ at h
    by_cases e : cmpT a.1 b.1 = 0
    · rw [if_pos e] at h; exact Prod.ext (T.eq _ _ e) (B.eq _ _ h)
    · rw [if_neg e] at h; exact absurd h e
  · unfold cmpQ at h k ⊢
    by_cases e : cmpT a.1 b.1 = 0
    · rw [if_pos e] at h
      rw [T.eq _ _ e]
      by_cases e2 : cmpT b.1 c.1 = 0
      · rw [if_pos e2] at k ⊢; exact B.trans _ _ _ h k
      · rw [if_neg e2] at k ⊢; exact k
    · rw [if_neg e] at h
      by_cases e2 : cmpT b.1 c.1 = 0
      · rw [if_pos e2] at k
        rw [← T.eq _ _ e2, if_neg e]; exact h
      · rw [if_neg e2] at k
        have := T.trans _ _ _ h k
        rw [if_neg (by omega)]; exact this
theorem key_cmpX {x y : El} (hx : okEl x = true) (hy : okEl y = true) : Pm.cmpB (kvT x).1 (kvT y).1 = cmpX x y := by
  simp only [okEl, Bool.and_eq_true] at hx hy
  exact key_lex x.2 y.2 hx.1 hy.1
end Go.Proofs.YtkkpdgfllnbigaaGreatDoor.Tg
namespace Go.Proofs.YtkkpdgfllnbigaaGreatDoor.Tg
open Go.RowKit Go.Shelf
set_option linter.unusedSimpArgs false
set_option linter.unusedVariables false

/-- The text ahead of the two bytes 0, and what stands behind them. -/
def cutK : List UInt8 → List UInt8 → Option (List UInt8 × List UInt8)
  | acc, a :: b :: l => if a = 0 then (if b = 0 then some (acc, l) else cutK (acc ++ [a]) l) else cutK (acc ++ [a]) (b :: l)
  | _, _ => none
theorem cutK_esc : ∀ (x acc r : List UInt8), cutK acc (esc x ++ ([0, 0] ++ r)) = some (acc ++ x, r)
  | [], acc, r => by simp [esc, cutK]
  | c :: x, acc, r => by
    have ih := cutK_esc x (acc ++ [c]) r
    by_cases hc : c = 0
    · subst hc
      simp only [esc, if_true, List.cons_append, List.nil_append] at ih ⊢
      rw [cutK, if_pos rfl, if_neg (by decide), ih]
      simp
    · simp only [esc, if_neg hc, List.cons_append, List.nil_append] at ih ⊢
      obtain ⟨b, l, hbl⟩ : ∃ b l, esc x ++ (0 :: 0 :: r) = b :: l := by
        cases h : esc x ++ (0 :: 0 :: r) with
        | nil => simp at h
        | cons b l => exact ⟨b, l, rfl⟩
      rw [hbl] at ih ⊢
      rw [cutK, if_neg hc, ih]
      simp
/-- What OfKey answers. -/
def ofK (k : ByteArray) : El × Bool :=
  match cutK [] k.data.toList with
  | none => ((zS, ⟨#[]⟩), false)
  | some (t, r) => if (okV ⟨r.toArray⟩ && (txtB ⟨t.toArray⟩ && decide (tkey ⟨t.toArray⟩ (ofT ⟨r.toArray⟩) = k))) = true then ((ofT ⟨r.toArray⟩, ⟨t.toArray⟩), true) else ((zS, ⟨#[]⟩), false)
theorem ofK_iff (k v : ByteArray) : ((ofK k).2 = true ∧ (ofK k).1.2 = v) ↔ tgV k v = true := by
  constructor
  · rintro ⟨h1, h2⟩
    unfold ofK at h1 h2
    split at h1
    · cases h1
    · rename_i t r hc
      rw [hc] at h2
      dsimp only at h2
      split at h1
      · rename_i hg
        rw [if_pos hg] at h2
        simp only [Bool.and_eq_true, decide_eq_true_eq] at hg
        dsimp only at h2
        subst h2
        have := (tgV_key hg.2.1 (okV_of hg.1).2).1
        rwa [hg.2.2] at this
      · cases h1
  · intro h
    obtain ⟨h1, h2, h3⟩ := tgV_of h
    have hk : cutK [] k.data.toList = some (v.data.toList, (keyT (tgS k v)).data.toList) := by
      have e : k.data.toList = esc v.data.toList ++ ([0, 0] ++ (keyT (tgS k v)).data.toList) := by
        rw [show k.data.toList = (tkey v (tgS k v)).data.toList from congrArg (fun q => q.data.toList) h1]
        unfold tkey frB
        simp
      rw [e, cutK_esc]
      rfl
    have hg : (okV (keyT (tgS k v)) && (txtB v && decide (tkey v (ofT (keyT (tgS k v))) = k))) = true := by
      rw [okV_key h2, h3, ofT_key h2, ← h1]
      simp
    unfold ofK
    rw [hk]
    have e1 : (⟨(keyT (tgS k v)).data.toList.toArray⟩ : ByteArray) = keyT (tgS k v) := by simp
    have e2 : (⟨v.data.toList.toArray⟩ : ByteArray) = v := by simp
    dsimp only
    rw [e1, e2, if_pos hg]
    exact ⟨rfl, rfl⟩
end Go.Proofs.YtkkpdgfllnbigaaGreatDoor.Tg
namespace Go.Proofs.YtkkpdgfllnbigaaGreatDoor.Tg
open Go.RowKit Go.Shelf
set_option linter.unusedSimpArgs false
set_option linter.unusedVariables false

theorem esc_app' (l m : List UInt8) : esc (l ++ m) = esc l ++ esc m := by
  induction l with
  | nil => rfl
  | cons c l ih => simp only [List.cons_append, esc, ih, List.append_assoc]
theorem index_cons (c : UInt8) (l sub : List UInt8) (h : sub.isPrefixOf (c :: l) = false) {n : Nat} (hi : Lib.index l sub = (n : Int)) : Lib.index (c :: l) sub = ((n + 1 : Nat) : Int) := by
  rw [Lib.index, h, hi]
  have : ((n : Int) == -1) = false := by rw [beq_eq_false_iff_ne]; omega
  simp [this]
theorem index_none (c : UInt8) (l sub : List UInt8) (h : sub.isPrefixOf (c :: l) = false) (hi : Lib.index l sub = -1) : Lib.index (c :: l) sub = -1 := by
  rw [Lib.index, h, hi]
  simp
theorem pre_nz {c x : UInt8} {l : List UInt8} (h : c ≠ 0) : ([0, x] : List UInt8).isPrefixOf (c :: l) = false := by
  have : ((0 : UInt8) == c) = false := by rw [beq_eq_false_iff_ne]; exact fun e => h e.symm
  simp [List.isPrefixOf, this]
theorem index_esc : ∀ (l r : List UInt8), Lib.index (esc l ++ 0 :: 0 :: r) [0, 0] = ((esc l).length : Int)
  | [], r => by
    rw [esc, List.nil_append, Lib.index, if_pos (by simp [List.isPrefixOf])]
    rfl
  | c :: l, r => by
    have ih := index_esc l r
    by_cases hc : c = 0
    · subst hc
      have h1 : esc (0 :: l) = 0 :: 1 :: esc l := by simp [esc]
      rw [h1, List.cons_append, List.cons_append]
      have h2 := index_cons 1 (esc l ++ 0 :: 0 :: r) [0, 0] (pre_nz (by decide)) ih
      have h3 := index_cons 0 (1 :: (esc l ++ 0 :: 0 :: r)) [0, 0] (by simp [List.isPrefixOf]) h2
      rw [h3]
      simp
    · have h1 : esc (c :: l) = c :: esc l := by simp [esc, hc]
      rw [h1, List.cons_append]
      have h2 := index_cons c (esc l ++ 0 :: 0 :: r) [0, 0] (pre_nz hc) ih
      rw [h2]
      simp
theorem cut_esc (l r : List UInt8) : (Lib.cut (esc l ++ 0 :: 0 :: r) [0, 0]).1 = esc l := by
  have h := index_esc l r
  unfold Lib.cut
  rw [if_pos (by rw [h]; omega), h]
  simp
theorem idx_nz : ∀ (l : List UInt8), (∀ c ∈ l, c ≠ 0) → Lib.index l [0, 1] = -1
  | [], _ => by simp [Lib.index]
  | c :: l, h => index_none c l _ (pre_nz (h c (List.mem_cons_self ..))) (idx_nz l fun x hx => h x (List.mem_cons_of_mem _ hx))
theorem idx_hit : ∀ (p q : List UInt8), (∀ c ∈ p, c ≠ 0) → Lib.index (p ++ 0 :: 1 :: q) [0, 1] = (p.length : Int)
  | [], q, _ => by
    rw [List.nil_append, Lib.index, if_pos (by simp [List.isPrefixOf])]
    rfl
  | c :: p, q, h => by
    rw [List.cons_append]
    have := index_cons c (p ++ 0 :: 1 :: q) [0, 1] (pre_nz (h c (List.mem_cons_self ..))) (idx_hit p q fun x hx => h x (List.mem_cons_of_mem _ hx))
    rw [this]
    simp
theorem esc_nz : ∀ (l : List UInt8), (∀ c ∈ l, c ≠ 0) → esc l = l
  | [], _ => rfl
  | c :: l, h => by
    have hc := h c (List.mem_cons_self ..)
    simp [esc, hc, esc_nz l fun x hx => h x (List.mem_cons_of_mem _ hx)]
theorem split_nz : ∀ (l : List UInt8), (∀ c ∈ l, c ≠ 0) ∨ ∃ p q, l = p ++ 0 :: q ∧ ∀ c ∈ p, c ≠ 0
  | [] => .inl (by simp)
  | c :: l => by
    by_cases hc : c = 0
    · exact .inr ⟨[], l, by rw [hc]; rfl, by simp⟩
    · rcases split_nz l with h | ⟨p, q, rfl, h⟩
      · exact .inl fun x hx => by
          rcases List.mem_cons.1 hx with rfl | hx
          · exact hc
          · exact h x hx
      · exact .inr ⟨c :: p, q, rfl, fun x hx => by
          rcases List.mem_cons.1 hx with rfl | hx
          · exact hc
          · exact h x hx⟩
theorem rep_k : ∀ (n : Nat) (l : List UInt8), l.length ≤ n → ∀ (fuel k : Nat), (esc l).length < fuel → Lib.countFrom [0, 1] fuel (esc l) ≤ k → Lib.replaceK [0, 1] [0] k (esc l) = l
  | n, l, hn, 0, k, hf, hc => absurd hf (by omega)
  | n, l, hn, fuel + 1, k, hf, hc => by
    rcases split_nz l with h | ⟨p, q, rfl, h⟩
    · have hi := idx_nz l h
      rw [esc_nz l h]
      cases k with
      | zero => rfl
      | succ k => rw [Lib.replaceK, hi]; simp
    · have he : esc (p ++ 0 :: q) = p ++ 0 :: 1 :: esc q := by rw [esc_app', esc_nz p h]; simp [esc]
      rw [he] at hf hc ⊢
      have hi := idx_hit p (esc q) h
      have hne : ((p.length : Int) == -1) = false := by rw [beq_eq_false_iff_ne]; omega
      have hd : (p ++ 0 :: 1 :: esc q).drop (p.length + 2) = esc q := by
        rw [List.drop_append, List.drop_of_length_le (by omega)]
        simp [show p.length + 2 - p.length = 2 by omega]
      rw [Lib.countFrom, hi, hne] at hc
      simp only [Bool.false_eq_true, if_false, Int.toNat_natCast, List.length_cons, List.length_nil, Nat.zero_add, Nat.reduceAdd] at hc
      rw [hd] at hc
      cases k with
      | zero => omega
      | succ k =>
        cases n with
        | zero => simp at hn
        | succ n =>
          rw [Lib.replaceK_hit [0, 1] [0] k _ p.length hi]
          simp only [List.length_cons, List.length_nil, Nat.zero_add, Nat.reduceAdd]
          rw [hd, List.take_left' rfl, rep_k n q (by simp at hn; omega) fuel k (by simp at hf; omega) (by omega)]
          simp
theorem rep_esc (l : List UInt8) : Lib.replaceAll (esc l) [0, 1] [0] = l := by
  unfold Lib.replaceAll Lib.replace
  rw [if_neg (by decide)]
  unfold Lib.replaceNum
  rw [if_pos (.inl (by decide))]
  exact rep_k _ l (Nat.le_refl _) _ _ (Nat.lt_succ_self _) (Nat.le_refl _)
/-- The text that the program reads. -/
def rdT (k : ByteArray) : ByteArray := ⟨(Lib.replaceAll (Lib.cut k.data.toList [0, 0]).1 [0, 1] [0]).toArray⟩
theorem rd_tkey {k v : ByteArray} (h : tgV k v = true) : rdT k = v := by
  obtain ⟨h1, -, -⟩ := tgV_of h
  have h2 : k.data.toList = esc v.data.toList ++ 0 :: 0 :: (keyT (tgS k v)).data.toList := by
    have := frB_list v (keyT (tgS k v))
    rw [show frB v ++ keyT (tgS k v) = k from h1.symm] at this
    simpa using this
  unfold rdT
  rw [h2, cut_esc, rep_esc]
theorem ofK_none {k : ByteArray} (h : (ofK k).2 = false) : ofK k = ((zS, ⟨#[]⟩), false) := by
  unfold ofK at h ⊢
  split
  · rfl
  · rename_i t r hc
    rw [hc] at h
    dsimp only at h ⊢
    split at h
    · cases h
    · rename_i hg; rw [if_neg hg]
theorem ofK_some {k : ByteArray} (h : (ofK k).2 = true) : (ofK k).1.1 = tgS k (ofK k).1.2 := by
  have hv := (ofK_iff k _).1 ⟨h, rfl⟩
  obtain ⟨h1, h2, h3⟩ := tgV_of hv
  clear h1 h2 h3
  obtain ⟨v, hv0⟩ : ∃ v, v = (ofK k).1.2 := ⟨_, rfl⟩
  rw [← hv0] at hv ⊢
  rcases hc : cutK [] k.data.toList with _ | ⟨t, r⟩
  · unfold ofK at h
    rw [hc] at h
    cases h
  · have hk : ofK k = if (okV ⟨r.toArray⟩ && (txtB ⟨t.toArray⟩ && decide (tkey ⟨t.toArray⟩ (ofT ⟨r.toArray⟩) = k))) = true then ((ofT ⟨r.toArray⟩, ⟨t.toArray⟩), true) else ((zS, ⟨#[]⟩), false) := by
      unfold ofK; rw [hc]
    rw [hk] at h hv0 ⊢
    split at h
    · rename_i hg
      rw [if_pos hg] at hv0 ⊢
      dsimp only at hv0 ⊢
      simp only [Bool.and_eq_true, decide_eq_true_eq] at hg
      subst hv0
      have h4 := (tgV_key (X := ⟨t.toArray⟩) (s := ofT ⟨r.toArray⟩) hg.2.1 (okV_of hg.1).2).2
      rw [hg.2.2] at h4
      exact h4.symm
    · cases h
/-- What the program's OfKey answers is what the document's does. -/
theorem ofK_prog (k : ByteArray) : ofK k = if tgV k (rdT k) = true then ((tgS k (rdT k), rdT k), true) else ((zS, ⟨#[]⟩), false) := by
  cases h : (ofK k).2 with
  | true =>
    have hv := (ofK_iff k _).1 ⟨h, rfl⟩
    have hr := rd_tkey hv
    rw [hr, if_pos hv]
    have h1 := ofK_some h
    generalize ofK k = q at *
    obtain ⟨⟨s, x⟩, b⟩ := q
    dsimp only at h h1 ⊢
    rw [h, h1]
  | false =>
    rw [ofK_none h]
    by_cases hv : tgV k (rdT k) = true
    · have := ((ofK_iff k _).2 hv).1
      rw [h] at this
      cases this
    · rw [if_neg hv]
end Go.Proofs.YtkkpdgfllnbigaaGreatDoor.Tg
namespace Go.Proofs.YtkkpdgfllnbigaaGreatDoor.Tg
open Go.RowKit Go.Shelf
set_option linter.unusedSimpArgs false
attribute [local go_sem] Oper.semAt_some

theorem num20 (n : Int) (w : World) : Calls Tryz.prog 10 #[.int .i64 n] w fun e w' => e = .returned (.int .i64 n) ∧ w' = w := by
  go_enter Tryz.func10, Tryz.ntmps10
  go_wp2
  go_ret
  exact ⟨rfl, rfl⟩
theorem ext_beq (a b : ByteArray) : decide (a = b) = (a.toList == b.toList) := by
  rw [Bool.eq_iff_iff, decide_eq_true_eq, beq_iff_eq, ByteArray.toList_eq, ByteArray.toList_eq]
  exact ⟨fun h => by rw [h], ext_data⟩
theorem hasPrefix263 (k f : ByteArray) (w : World) : Calls Tryz.prog 96 #[.string k, .string f] w fun e w' => e = .returned (.bool (pre f k)) ∧ w' = w := by
  by_cases h : f.size ≤ k.size
  · have h1 : (f.size : Int) ≤ (k.size : Int) := by omega
    have h2 : decide ((f.size : Int) ≤ (k.size : Int)) = true := by simpa using h1
    have h3 : decide (f.size ≤ k.size) = true := by simpa using h
    have hp : pre f k = ((k.extract 0 f.size).toList == f.toList) := by unfold pre; rw [h3, Bool.true_and, ext_beq]
    rw [hp]
    go_enter Tryz.func96, Tryz.ntmps96
    go_wp2
    go_ret
    exact ⟨rfl, rfl⟩
  · have h1 : ¬ (f.size : Int) ≤ (k.size : Int) := by omega
    have h2 : decide ((f.size : Int) ≤ (k.size : Int)) = false := by simpa using h1
    have h3 : decide (f.size ≤ k.size) = false := by simpa using h
    have hp : pre f k = false := by unfold pre; rw [h3, Bool.false_and]
    rw [hp]
    go_enter Tryz.func96, Tryz.ntmps96
    go_wp2
    go_ret
    exact ⟨rfl, rfl⟩
theorem pre_le {f k : ByteArray} (h : pre f k = true) : f.size ≤ k.size := by
  simp only [pre, Bool.and_eq_true, decide_eq_true_eq] at h
  exact h.1
theorem cutPrefix239 (k f : ByteArray) (w : World) : Calls Tryz.prog 68 #[.string k, .string f] w fun e w' => e = .returned (.tuple #[.string (if pre f k = true then rest f k else k), .bool (pre f k)]) ∧ w' = w := by
  have hc := hasPrefix263 k f w
  cases hp : pre f k with
  | false =>
    rw [hp] at hc
    rw [if_neg (by decide)]
    clear hp
    go_enter Tryz.func68, Tryz.ntmps68
    go_wp2_with (go_at_call 96; refine hc.mono ?_; rintro e w1 ⟨rfl, rfl⟩; dsimp only)
    go_ret2
    exact ⟨rfl, rfl⟩
  | true =>
    rw [hp] at hc
    rw [if_pos rfl]
    have hle := pre_le hp
    have h1 : (f.size : Int) ≤ (k.size : Int) := by omega
    unfold rest
    clear hp
    go_enter Tryz.func68, Tryz.ntmps68
    go_wp2_with (go_at_call 96; refine hc.mono ?_; rintro e w1 ⟨rfl, rfl⟩; dsimp only)
    go_ret2
    exact ⟨rfl, rfl⟩
theorem cutPrefix211 (k f : ByteArray) (w : World) : Calls Tryz.prog 41 #[.string k, .string f] w fun e w' => e = .returned (.tuple #[.string (if pre f k = true then rest f k else k), .bool (pre f k)]) ∧ w' = w := by
  have hc := cutPrefix239 k f w
  generalize (if pre f k = true then rest f k else k) = R at hc ⊢
  generalize pre f k = B at hc ⊢
  go_enter Tryz.func41, Tryz.ntmps41
  go_wp2_with (go_at_call 68; refine hc.mono ?_; rintro e w1 ⟨rfl, rfl⟩; dsimp only)
  go_ret2
  exact ⟨rfl, rfl⟩
end Go.Proofs.YtkkpdgfllnbigaaGreatDoor.Tg
namespace Go.Proofs.YtkkpdgfllnbigaaGreatDoor.Tg
open Go.RowKit Go.Shelf
set_option linter.unusedSimpArgs false
attribute [local go_sem] Oper.semAt_some

theorem wpList_turn {P : Program} {ops : Array Oper} {rest : List Oper} {o : Oper} {a : Act} {w w' : World} {Q : Exit → Act → World → Prop} {OP : Op} {T : TypeId} {v : Value} (hgd : o.guard = none) (ho : o.op = OP) (ht : o.type = T)
    (hy : (execOp a.eval { dst := none, op := OP, type := T, pos := "", after := #[], guard := none }).run P w = .ok (.value v) w') (h : wpList P ops Q rest (a.put o.dst v) w') : wpList P ops Q (o :: rest) a w :=
  wpList_plain hgd fun K hK => by
    unfold Oper.wp
    rw [exec_same a.eval o ho ht, hy]
    exact hK _ _ h
/-- One byte is laid behind; where the row then lies. -/
theorem pushW {w : World} {B b : Nat} {v : Value} {p : List Int} {c : Int} (hown : Own 5 w B v p) (hcell : w.heap[b]? = some (.cells #[.int .u8 c] 5 (0, 0))) (hp : p.length + 1 ≤ 1000000) (hB : B ≤ w.heap.size) :
    ∃ a' c' w', (Builtin.append_ #[64, 64] 64 #[v, .slice (some ⟨b, 0, none⟩) 1 1]).run Tryz.prog w = .ok (.slice a' (p.length + 1) c') w' ∧ Own 5 w' B (.slice a' (p.length + 1) c') (p ++ [c]) ∧ w.grownBy w' v.ownBlock ∧ Where w v (.slice a' (p.length + 1) c') := by
  obtain ⟨i0, hi, hz0, hz1, hz2⟩ := info_parts Tryz.info5
  obtain ⟨v', w', hr, h2, h3, h4⟩ := append_where (P := Tryz.prog) w 64 64 5 i0 (.int .u8 0) 1 1 Tryz.underlying64 hi hz0 hz1 hz2 rfl (by decide) v p.length (u8s p) (hown.lift (Nat.zero_le _)) ⟨b, 0, none⟩ 1 1 [.int .u8 c] (by simp) (fun j u hj => by rw [add_lit, cell_of_row _ _ (0 + j) #[.int .u8 c] 5 (0, 0) hcell, Nat.zero_add]; simpa using hj) (fun u hu => u8s_one (l := [c]) u (by simpa [u8s] using hu)) (by unfold maxLen; omega) (by omega)
  have hO : Own 5 w' 0 v' (p ++ [c]) := by
    unfold Own
    rw [u8s_append, List.length_append]
    exact h2
  obtain ⟨a', c', hv, _, _⟩ := row_form hO
  subst hv
  rw [List.length_append] at hO hr h4
  refine ⟨a', c', w', hr, ?_, h3, h4⟩
  rcases hO with ⟨q1, q2⟩
  refine ⟨q1, ?_⟩
  rcases q2 with q2 | ⟨g, cap, cur, e, hb, r⟩
  · exact .inl q2
  · refine .inr ⟨g, cap, cur, e, ?_, r⟩
    rcases h4 g (by rw [show (Value.slice a' (p.length + [c].length) c') = _ from e]; rfl) with h | h
    · exact (World.ownsRow.lt hown g h).1
    · omega
theorem exec_append9 {ev : Operand → Value} {s x : Operand} {v u v' : Value} {w w' : World} (hs : ev s = v) (hx : ev x = u) (hr : (Builtin.append_ #[64, 9] 64 #[v, u]).run Tryz.prog w = .ok v' w') :
    (execOp ev { dst := none, op := .call { callee := .builtin .append, args := #[s, x], argTypes := #[64, 9] }, type := 64, pos := "", after := #[], guard := none }).run Tryz.prog w = .ok (.value v') w' := by
  simp [execOp, resolve, invoke, builtin, hs, hx, hr, Result.andThen]
def escI (l : List Int) : List Int := l.flatMap fun c => if c = 0 then [0, 1] else [c]
theorem escI_ints (l : List UInt8) : escI (ints l) = ints (esc l) := by
  induction l with
  | nil => rfl
  | cons c l ih =>
    have h : (c.toNat : Int) = 0 ↔ c = 0 := by
      constructor
      · intro h
        apply UInt8.toNat_inj.1
        show c.toNat = 0
        omega
      · intro h; rw [h]; rfl
    show escI ((c.toNat : Int) :: ints l) = ints ((if c = 0 then [0, 1] else [c]) ++ esc l)
    rw [ints_append, ← ih]
    by_cases hc : c = 0
    · have h2 : (c.toNat : Int) = 0 := h.2 hc
      simp [escI, h2, hc, ints]
    · have h2 : ¬ c.toNat = 0 := fun e => hc (h.1 (by omega))
      simp [escI, h2, hc, ints]
theorem escI_len (l : List Int) : (escI l).length ≤ 2 * l.length := by
  induction l with
  | nil => exact Nat.le_refl _
  | cons c l ih =>
    unfold escI at ih ⊢
    rw [List.flatMap_cons, List.length_append, List.length_cons]
    have h2 : (if c = 0 then [0, 1] else [c]).length ≤ 2 := by split <;> simp
    omega
theorem escI_snoc (l : List Int) (k : Nat) (b : Int) (h : l[k]? = some b) : escI (l.take (k + 1)) = escI (l.take k) ++ (if b = 0 then [0, 1] else [b]) := by
  rw [List.take_add_one, h]
  simp [escI]
/-- What stands between rounds. -/
structure FrI (w : World) (T : Nat) (L p : List Int) (v : Value) (W : World) : Prop where
  own : Own 5 W w.heap.size v p
  low : Below w.heap.size w W
  rd : Rd W (some ⟨T, 0, none⟩) L
  ne : ¬ v.ownBlock = some T
  lt : T < W.heap.size
theorem FrI.push {w W : World} {T b : Nat} {L p : List Int} {v : Value} {c : Int} (h : FrI w T L p v W) (hcell : W.heap[b]? = some (.cells #[.int .u8 c] 5 (0, 0))) (hp : p.length + 1 ≤ 1000000) :
    ∃ a' c' W', (Builtin.append_ #[64, 64] 64 #[v, .slice (some ⟨b, 0, none⟩) 1 1]).run Tryz.prog W = .ok (.slice a' (p.length + 1) c') W' ∧ FrI w T L (p ++ [c]) (.slice a' (p.length + 1) c') W' := by
  obtain ⟨a', c', W', hr, ho, hg, hw⟩ := pushW h.own hcell hp h.low.size
  refine ⟨a', c', W', hr, ho, below_own h.low h.low.size h.own hg, h.rd.grown hg (fun a ha => ?_), ?_, Nat.lt_of_lt_of_le h.lt hg.size⟩
  · cases ha
    exact fun e => h.ne e.symm
  · intro e
    rcases hw T e with h1 | h1
    · exact h.ne h1
    · have := h.lt; omega
theorem FrI.alloc {w W : World} {T : Nat} {L p : List Int} {v : Value} (h : FrI w T L p v W) (o : Obj) : FrI w T L p v (W.alloc o) := ⟨h.own.alloc o, h.low.alloc h.low.size o, h.rd.alloc o, h.ne, by have := h.lt; simp; omega⟩
set_option maxHeartbeats 2000000 in
set_option maxRecDepth 100000 in
theorem front165 (X : ByteArray) (w : World) (hX : X.size ≤ 256) : Calls Tryz.prog 22 #[.string X] w fun e w' => e = .returned (.string (frB X)) ∧ Below w.heap.size w w' := by
  obtain ⟨i0, hi, hz0, hz1, hz2⟩ := info_parts Tryz.info5
  obtain ⟨W1, hmk, hown, hg⟩ := run_makeSlice_owned (P := Tryz.prog) w w.heap.size 64 5 i0 (.int .u8 0) 1 Tryz.underlying64 hi hz0 hz1 .i64 .i64 (X.size + 2) (by omega) (by rw [hz2]; omega) (by unfold maxLen; omega) (Nat.le_refl _)
  have b1 : Below w.heap.size w W1 := below_own (Below.refl _ w) (Nat.le_refl _) (Own.nil 5 w _) hg
  have hown1 : Own 5 W1 w.heap.size (.slice (some ⟨w.heap.size, 0, none⟩) 0 (X.size + 2)) [] := hown
  have hT := (World.ownsRow.lt hown w.heap.size rfl).2
  obtain ⟨c, W2, hcv, hRd, hB2⟩ := conv_str X W1
  have hL := ints_size X
  obtain ⟨L, hLL⟩ : ∃ q, q = ints X.data.toList := ⟨_, rfl⟩
  rw [← hLL] at hRd hL
  have hsz2 := hB2.size
  have hT2 : W1.heap.size < W2.heap.size := by
    have h := Lib.run_convert_string_bytes (P := Tryz.prog) W1 9 64 5 X Tryz.underlying9 Tryz.underlying64 Tryz.underlying5
    rw [hcv] at h
    injection h with e1 e2
    rw [e2, Lib.bytesWorld_size]
    omega
  have h0 : FrI w W1.heap.size L [] (.slice (some ⟨w.heap.size, 0, none⟩) 0 (X.size + 2)) W2 := ⟨hown1.below hB2, b1.trans (hB2.mono b1.size), hRd, fun e => by have e' : some w.heap.size = some W1.heap.size := e; injection e' with e''; omega, hT2⟩
  have hb8 : ∀ (k : Nat) (b : Int), L[k]? = some b → 0 ≤ b ∧ b < 256 := fun k b hb => by
    rw [hLL] at hb
    unfold ints at hb
    rw [List.getElem?_map] at hb
    obtain ⟨u, _, rfl⟩ := Option.map_eq_some_iff.1 hb
    have := u.toNat_lt
    omega
  have hfin : (⟨#[]⟩ : ByteArray).size = 0 := rfl
  have hfr : strOfNums (escI L ++ [0, 0]) = frB X := by
    rw [hLL, escI_ints, show ([0, 0] : List Int) = ints [0, 0] from rfl, ← ints_append, str_ints]
    rfl
  have H := hide (And.intro h0 (And.intro hL (And.intro hb8 hfr)))
  have HI0 := hide (And.intro hi (And.intro hz0 (And.intro hz1 hz2)))
  obtain ⟨T, hTT⟩ : ∃ q, q = W1.heap.size := ⟨_, rfl⟩
  rw [← hTT] at H hcv
  have mk2 : (Instr.makeSlice 64 (.int .i64 0) (.int .i64 ((X.size : Int) + 2))).run Tryz.prog w = .ok (.slice (some ⟨w.heap.size, 0, none⟩) 0 (X.size + 2)) W1 := hmk
  clear hown hg b1 hown1 hT hRd hL hLL hsz2 hT2 h0 hb8 hfin hfr hi hz0 hz1 hz2 hmk hB2 hTT
  go_enter Tryz.func22, Tryz.ntmps22
  go_wp2
  go_loopw [3, 13] (fun v3 v13 wr => ∃ (k : Nat) (p : List Int), k ≤ X.size ∧ v13 = .int .i64 (k : Nat) ∧ Hid (p = escI (L.take k)) ∧ Hid (FrI w T L p v3 wr)) (fun _ v13 _ => X.size - (intOf v13).toNat)
  case atStart => exact ⟨0, [], Nat.zero_le _, rfl, hide rfl, hide H.out.1⟩
  case round =>
    obtain ⟨k, p, hk, rfl, hp, HI⟩ := hrel
    have hpl : p.length ≤ 512 := by
      rw [hp.out]
      have h1 := escI_len (L.take k)
      have h2 := H.out.2.1
      rw [List.length_take] at h1
      omega
    by_cases hc : k < X.size
    · have z1 : (k : Int) < (X.size : Int) := by omega
      obtain ⟨b, hb⟩ : ∃ b, L[k]? = some b := ⟨_, List.getElem?_eq_getElem (by rw [H.out.2.1]; exact hc)⟩
      obtain ⟨ab, off, he, hcl⟩ := HI.out.rd.at hb
      cases he
      rw [Nat.zero_add] at hcl
      have hb0 := H.out.2.2.1 k b hb
      have hsn := escI_snoc L k b hb
      rw [← hp.out] at hsn
      by_cases hz : b = 0
      · subst hz
        rw [if_pos rfl] at hsn
        obtain ⟨a1, c1, W3, hr1, hf1⟩ := (HI.out.alloc (.cells #[.int .u8 0] 5)).push (heap_alloc_new _ _) (by omega)
        obtain ⟨a2, c2, W4, hr2, hf2⟩ := (hf1.alloc (.cells #[.int .u8 1] 5)).push (heap_alloc_new _ _) (by rw [List.length_append]; simp; omega)
        have HN := hide (And.intro hsn hf2)
        clear hsn hf2 hf1 hb hp hb0
        go_wp2_with (first
          | (at_builtin; refine wpList_turn (OP := .call { callee := .builtin .append, args := #[.tmp 20, .tmp 22], argTypes := #[64, 64] }) (T := 64) rfl rfl rfl (exec_append rfl rfl hr1) ?_)
          | (at_builtin; refine wpList_turn (OP := .call { callee := .builtin .append, args := #[.tmp 24, .tmp 26], argTypes := #[64, 64] }) (T := 64) rfl rfl rfl (exec_append rfl rfl hr2) ?_))
        go_roundw
        case rel => exact ⟨k + 1, _, by omega, by go_num, hide rfl, hide (by rw [HN.out.1]; simpa using HN.out.2)⟩
        case measure => simp [intOf]; omega
      · rw [if_neg hz] at hsn
        obtain ⟨a1, c1, W3, hr1, hf1⟩ := (HI.out.alloc (.cells #[.int .u8 b] 5)).push (heap_alloc_new _ _) (by omega)
        have HN := hide (And.intro hsn hf1)
        clear hsn hf1 hb hp hb0
        go_wp2_with (at_builtin; refine wpList_turn (OP := .call { callee := .builtin .append, args := #[.tmp 24, .tmp 26], argTypes := #[64, 64] }) (T := 64) rfl rfl rfl (exec_append rfl rfl hr1) ?_)
        go_roundw
        case rel => exact ⟨k + 1, _, by omega, by go_num, hide rfl, hide (by rw [HN.out.1]; exact HN.out.2)⟩
        case measure => simp [intOf]; omega
    · have z1 : ¬ (k : Int) < (X.size : Int) := by omega
      obtain ⟨hi, hz0, hz1, hz2⟩ := HI0.out
      have hE : p = escI L := by rw [hp.out, List.take_of_length_le (by rw [H.out.2.1]; omega)]
      obtain ⟨v', w', hr, ho, hg, -⟩ := Lib.run_append_own_string (P := Tryz.prog) wr w.heap.size 64 9 64 5 i0 Tryz.underlying64 Tryz.underlying9 hi hz0 hz1 hz2 _ p.length (u8s p) HI.out.own ⟨#[0, 0]⟩ (by show p.length + 2 ≤ maxLen; unfold maxLen; omega) (by show p.length + 2 ≤ _; omega) HI.out.low.size
      have hO : Own 5 w' w.heap.size v' (escI L ++ [0, 0]) := by
        unfold Own
        rw [u8s_append, List.length_append, ← hE]
        exact ho
      have hb' := below_own HI.out.low HI.out.low.size HI.out.own hg
      obtain ⟨a2, c2, hv2, hrd2, -⟩ := hO.shape
      have hcr := conv_rd (n := (escI L ++ [0, 0]).length) (cap := c2) hrd2 rfl
      rw [← hv2, H.out.2.2.2] at hcr
      have HB := hide hb'
      clear hi hz0 hz1 hz2 hE ho hg hO hb' hv2 hrd2
      go_wp2_with (at_builtin; refine wpList_turn (OP := .call { callee := .builtin .append, args := #[.tmp 29, .const (.string ⟨#[0, 0]⟩)], argTypes := #[64, 9] }) (T := 64) rfl rfl rfl (exec_append9 rfl rfl hr) ?_)
      go_ret
      exact ⟨rfl, HB.out⟩
end Go.Proofs.YtkkpdgfllnbigaaGreatDoor.Tg
