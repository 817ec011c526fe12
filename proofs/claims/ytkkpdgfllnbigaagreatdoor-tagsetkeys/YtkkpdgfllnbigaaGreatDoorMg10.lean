/-
  walk: THREE MAPS RUN TOGETHER (the plain part).
  walk: WHERE THE WALK READS NOTHING: the closure 31 of Run.
  walk: A REGION OF THE WALK'S CLOSURE: three calls in a row, and three boxes that may be made at any time.
  walk: WHAT THE WALK'S CLOSURE HAS, AND WHAT IT LEAVES ALONE.
  walk: THE WALK: the closure 31 of Run.
  walk: HOW MANY NODES ARE NEW: made 36 and its closure 55.
  walk: made 36.
  walk: Run 18.
  walk: THE ELEMENTS' RULE MAY BE ASKED, AND IS FAIR WHERE VALUES ARE TOLD BY THEIR KEYS.
  walk: Elements 10.
  THE LAWS' OWN SMALL FUNCTIONS: part 12, stays 15; Run 18 with no rule.
  register: One (47), Write (22); a map that is whole.
  EQS6: branches, names, stamps compared.
  register: Write (22), Three (45).
  Where a tree's nodes lie.
-/
import Derived.Test.YtkkpdgfllnbigaaGreatDoorMg9
import Derived.Test.YtkkpdgfllnbigaaGreatDoorMg7
import Derived.Laws.StructEq
import Derived.Test.YtkkpdgfllnbigaaGreatDoorMg1
namespace Go.Proofs.YtkkpdgfllnbigaaGreatDoor.Pm
open Go.RowKit Go.Shelf
set_option linter.unusedSimpArgs false

theorem ins_less {x : ByteArray × ByteArray} {k : ByteArray} {v : ByteArray} {l : List (ByteArray × ByteArray)} (h : cmpB x.1 k = -1) : ins k v (x :: l) = x :: ins k v l := by
  have hp : pos k (x :: l) = pos k l + 1 := by simp [pos, h]
  have hh : has k (x :: l) = has k l := by unfold has; rw [hp]; simp
  unfold ins
  rw [hp, hh]
  split <;> simp
theorem ins_mem {k : ByteArray} {v : ByteArray} {l : List (ByteArray × ByteArray)} {y : ByteArray × ByteArray} (h : y ∈ ins k v l) : y = (k, v) ∨ y ∈ l := by
  unfold ins at h
  rcases List.mem_append.1 h with h | h
  · exact .inr (List.mem_of_mem_take h)
  · rcases List.mem_cons.1 h with h | h
    · exact .inl h
    · exact .inr (List.mem_of_mem_drop h)
theorem srt_ins {l : List (ByteArray × ByteArray)} (h : Srt l) (k : ByteArray) (v : ByteArray) : Srt (ins k v l) := by
  induction l with
  | nil => simp [ins, pos, has, Srt]
  | cons x l ih =>
    obtain ⟨h1, h2⟩ := List.pairwise_cons.1 h
    by_cases hc : cmpB x.1 k = -1
    · rw [ins_less hc]
      refine List.Pairwise.cons (fun y hy => ?_) (ih h2)
      rcases ins_mem hy with rfl | hy
      · exact hc
      · exact h1 y hy
    · have hp : pos k (x :: l) = 0 := by simp [pos, hc]
      have hh : has k (x :: l) = decide (x.1 = k) := by unfold has; rw [hp]; rfl
      unfold ins
      rw [hp, hh]
      by_cases he : x.1 = k
      · simp only [he, decide_true, if_true, List.take_zero, List.nil_append, Nat.zero_add, List.drop_succ_cons, List.drop_zero]
        exact List.Pairwise.cons (fun y hy => by have := h1 y hy; rw [he] at this; exact this) h2
      · simp only [he, decide_false, Bool.false_eq_true, if_false, List.take_zero, List.nil_append, List.drop_zero]
        have hk : cmpB k x.1 = -1 := by
          have h3 := ord_B.range x.1 k
          have h4 := ord_B.anti k x.1
          rcases h3 with h3 | h3 | h3
          · exact (hc h3).elim
          · exact (he (ord_B.eq _ _ h3)).elim
          · have := ord_B.anti x.1 k; omega
        refine List.Pairwise.cons (fun y hy => ?_) h
        rcases List.mem_cons.1 hy with rfl | hy
        · exact hk
        · exact ord_B.trans _ _ _ hk (h1 y hy)
/-- What a list has under a key. -/
def look (k : ByteArray) : List (ByteArray × ByteArray) → ByteArray × Bool
  | [] => (⟨#[]⟩, false)
  | x :: l => if x.1 = k then (x.2, true) else look k l
theorem look_none {k : ByteArray} : ∀ {l : List (ByteArray × ByteArray)}, (∀ y ∈ l, y.1 ≠ k) → look k l = (⟨#[]⟩, false)
  | [], _ => rfl
  | x :: l, h => by rw [look, if_neg (h x (by simp)), look_none (fun y hy => h y (by simp [hy]))]
theorem look_left {k : ByteArray} : ∀ {l r : List (ByteArray × ByteArray)}, (∀ y ∈ r, y.1 ≠ k) → look k (l ++ r) = look k l
  | [], r, h => by rw [List.nil_append, look_none h]; rfl
  | x :: l, r, h => by rw [List.cons_append, look, look, look_left h]
theorem look_right {k : ByteArray} : ∀ {l r : List (ByteArray × ByteArray)}, (∀ y ∈ l, y.1 ≠ k) → look k (l ++ r) = look k r
  | [], r, h => rfl
  | x :: l, r, h => by rw [List.cons_append, look, if_neg (h x (by simp)), look_right (fun y hy => h y (by simp [hy]))]
theorem cmp_ne {a b : ByteArray} (h : cmpB a b = -1) : a ≠ b := fun e => by rw [e, ord_B.refl] at h; exact absurd h (by decide)
theorem cmp_three (a b : ByteArray) : cmpB a b = -1 ∨ a = b ∨ cmpB b a = -1 := by
  rcases ord_B.range a b with h | h | h
  · exact .inl h
  · exact .inr (.inl (ord_B.eq _ _ h))
  · right; right; have := ord_B.anti b a; omega
/-- A key between two sides. -/
theorem look_mid {k : ByteArray} {v : ByteArray} {l r : List (ByteArray × ByteArray)} (hl : ∀ y ∈ l, cmpB y.1 k = -1) (hr : ∀ y ∈ r, cmpB k y.1 = -1) : look k (l ++ (k, v) :: r) = (v, true) ∧ (∀ j, cmpB j k = -1 → look j (l ++ (k, v) :: r) = look j l) ∧ (∀ j, cmpB k j = -1 → look j (l ++ (k, v) :: r) = look j r) := by
  refine ⟨?_, fun j hj => ?_, fun j hj => ?_⟩
  · rw [look_right (fun y hy => cmp_ne (hl y hy))]; simp [look]
  · refine look_left (fun y hy => ?_)
    rcases List.mem_cons.1 hy with rfl | hy
    · exact (cmp_ne hj).symm
    · exact (cmp_ne (ord_B.trans _ _ _ hj (hr y hy))).symm
  · rw [look_right (fun y hy => cmp_ne (ord_B.trans _ _ _ (hl y hy) hj)), look, if_neg (cmp_ne hj)]
/-- Two sides without a key between them. -/
theorem look_two {k : ByteArray} {l r : List (ByteArray × ByteArray)} (hl : ∀ y ∈ l, cmpB y.1 k = -1) (hr : ∀ y ∈ r, cmpB k y.1 = -1) : look k (l ++ r) = (⟨#[]⟩, false) ∧ (∀ j, cmpB j k = -1 → look j (l ++ r) = look j l) ∧ (∀ j, cmpB k j = -1 → look j (l ++ r) = look j r) := by
  refine ⟨?_, fun j hj => ?_, fun j hj => ?_⟩
  · rw [look_right (fun y hy => cmp_ne (hl y hy)), look_none (fun y hy => (cmp_ne (hr y hy)).symm)]
  · exact look_left (fun y hy => (cmp_ne (ord_B.trans _ _ _ hj (hr y hy))).symm)
  · exact look_right (fun y hy => cmp_ne (ord_B.trans _ _ _ (hl y hy) hj))
/-- What a map's search tells is what its list has. -/
theorem find_look : ∀ (t : T) (k : ByteArray), Srt t.list → ((t.find k).val, (t.find k).isSome) = look k t.list
  | .nil, k, _ => rfl
  | .node p nk nv l r, k, hs => by
    obtain ⟨s1, s2, s3, s4⟩ := Srt.app.1 hs
    obtain ⟨m1, m2, m3⟩ := look_mid (v := nv) s3 s4
    rw [T.list, T.find]
    rcases cmp_three k nk with h | h | h
    · rw [if_pos h, m2 k h]; exact find_look l k s1
    · subst h
      rw [ord_B.refl, if_neg (by decide), if_neg (by decide), m1]; rfl
    · have h1 : cmpB k nk = 1 := by have := ord_B.anti k nk; omega
      rw [if_neg (by omega), if_pos h1, m3 k h]; exact find_look r k s2
/-- What a split tells, by the lists. -/
structure Sides (k : ByteArray) (t a f b : T) : Prop where
  asrt : Srt a.list
  bsrt : Srt b.list
  less : ∀ y ∈ a.list, cmpB y.1 k = -1
  more : ∀ y ∈ b.list, cmpB k y.1 = -1
  at_ : look k t.list = (f.val, f.isSome)
  below : ∀ j, cmpB j k = -1 → look j t.list = look j a.list
  above : ∀ j, cmpB k j = -1 → look j t.list = look j b.list
  inA : ∀ y ∈ a.list, y ∈ t.list
  inB : ∀ y ∈ b.list, y ∈ t.list
  n : a.n + b.n + (if f.isSome then 1 else 0) = t.n
theorem Splits.sides {B : Nat} {k : ByteArray} {t a f b : T} (h : Splits B k t a f b) (hs : Srt t.list) : Sides k t a f b := by
  obtain ⟨h1, h2, h3, h4⟩ := h.list hs
  have hi : a.list ++ (k, ⟨#[]⟩) :: b.list = ins k ⟨#[]⟩ t.list := by rw [h1, h2]; rfl
  have hsi := srt_ins hs k ⟨#[]⟩
  rw [← hi] at hsi
  obtain ⟨s1, s2, s3, s4⟩ := Srt.app.1 hsi
  have hpl := pos_le k t.list
  cases hG : has k t.list with
  | false =>
    rw [hG] at h2
    simp only [if_neg Bool.false_ne_true] at h2
    have ht : t.list = a.list ++ b.list := by rw [h1, h2, List.take_append_drop]
    have hf := h3 hG
    subst hf
    obtain ⟨m1, m2, m3⟩ := look_two s3 s4
    refine ⟨s1, s2, s3, s4, by rw [ht, m1]; rfl, fun j hj => by rw [ht, m2 j hj], fun j hj => by rw [ht, m3 j hj], fun y hy => by rw [ht]; simp [hy], fun y hy => by rw [ht]; simp [hy], ?_⟩
    have := congrArg List.length ht
    simp only [List.length_append, T.n_eq] at this
    simp [T.isSome]; omega
  | true =>
    rw [hG] at h2
    simp only [if_true] at h2
    obtain ⟨hn, hg⟩ := h4 hG
    have ht : t.list = a.list ++ (k, f.val) :: b.list := by
      have hlt := (List.getElem?_eq_some_iff.1 hg).1
      rw [h1, h2]
      rw [List.getElem?_eq_getElem hlt] at hg
      rw [← Option.some.inj hg, List.getElem_cons_drop, List.take_append_drop]
    have hsome : f.isSome = true := by
      cases f with
      | nil => exact (hn rfl).elim
      | node => rfl
    obtain ⟨m1, m2, m3⟩ := look_mid (v := f.val) s3 s4
    refine ⟨s1, s2, s3, s4, by rw [ht, m1, hsome], fun j hj => by rw [ht, m2 j hj], fun j hj => by rw [ht, m3 j hj], fun y hy => by rw [ht]; simp [hy], fun y hy => by rw [ht]; simp [hy], ?_⟩
    have := congrArg List.length ht
    simp only [List.length_append, List.length_cons, T.n_eq] at this
    rw [hsome]; simp; omega
/-- The key that the walk reads. -/
def topK (a b : T) : ByteArray := if a = .nil then b.key else a.key
def T.part (f : T) : ByteArray × Bool := (f.val, f.isSome)
/-- Three maps run together by a rule: the map, and the keys that the rule is asked for, in their order. -/
inductive Runs (B : Nat) (R : ByteArray → ByteArray × Bool → ByteArray × Bool → ByteArray × Bool → ByteArray × Bool) : T → T → T → T → List ByteArray → Prop where
  | same {o a : T} : Runs B R o a a a []
  | left {o b : T} (h : o ≠ b) : Runs B R o o b b []
  | right {o a : T} (h : a ≠ o) : Runs B R o a o a []
  | joins {o a b o1 o2 f a1 a2 g b1 b2 h t1 t2 t : T} {ks1 ks2 : List ByteArray} {v : ByteArray} (n1 : a ≠ b) (n2 : o ≠ a) (n3 : o ≠ b) (so : Splits B (topK a b) o o1 f o2) (sa : Splits B (topK a b) a a1 g a2) (sb : Splits B (topK a b) b b1 h b2)
      (r1 : Runs B R o1 a1 b1 t1 ks1) (r2 : Runs B R o2 a2 b2 t2 ks2) (hr : R (topK a b) f.part g.part h.part = (v, true)) (hj : Joined B (topK a b) v t1 t2 t) : Runs B R o a b t (ks1 ++ ks2 ++ [topK a b])
  | closes {o a b o1 o2 f a1 a2 g b1 b2 h t1 t2 t : T} {ks1 ks2 : List ByteArray} {v : ByteArray} (n1 : a ≠ b) (n2 : o ≠ a) (n3 : o ≠ b) (so : Splits B (topK a b) o o1 f o2) (sa : Splits B (topK a b) a a1 g a2) (sb : Splits B (topK a b) b b1 h b2)
      (r1 : Runs B R o1 a1 b1 t1 ks1) (r2 : Runs B R o2 a2 b2 t2 ks2) (hr : R (topK a b) f.part g.part h.part = (v, false)) (hj : Closes B t1 t2 t) (hb : t1.bal → t2.bal → t.bal) : Runs B R o a b t (ks1 ++ ks2 ++ [topK a b])
theorem root_has {B : Nat} {t a f b : T} (hn : t ≠ .nil) (h : Splits B t.key t a f b) (hs : Srt t.list) : f.isSome = true := by
  have h1 := (h.sides hs).at_
  cases t with
  | nil => exact (hn rfl).elim
  | node p k v l r =>
    obtain ⟨s1, s2, s3, s4⟩ := Srt.app.1 hs
    rw [show (T.node p k v l r).list = l.list ++ (k, v) :: r.list from rfl, show (T.node p k v l r).key = k from rfl, (look_mid (v := v) s3 s4).1] at h1
    exact (congrArg Prod.snd h1).symm
/-- What stands of the sides that are run together. -/
theorem top_has {B : Nat} {a b a1 a2 g b1 b2 h : T} (n1 : a ≠ b) (sa : Splits B (topK a b) a a1 g a2) (sb : Splits B (topK a b) b b1 h b2) (ha : Srt a.list) (hb : Srt b.list) : g.isSome = true ∨ h.isSome = true := by
  by_cases e : a = .nil
  · right
    have hk : topK a b = b.key := by unfold topK; rw [if_pos e]
    rw [hk] at sb
    exact root_has (fun e2 => n1 (by rw [e, e2])) sb hb
  · left
    have hk : topK a b = a.key := by unfold topK; rw [if_neg e]
    rw [hk] at sa
    exact root_has e sa ha
theorem look_mem {k : ByteArray} : ∀ {l : List (ByteArray × ByteArray)}, (look k l).2 = true → ∃ y ∈ l, y.1 = k
  | [], h => by simp [look] at h
  | x :: l, h => by
    by_cases e : x.1 = k
    · exact ⟨x, by simp, e⟩
    · rw [look, if_neg e] at h
      obtain ⟨y, hy, e2⟩ := look_mem h
      exact ⟨y, by simp [hy], e2⟩
/-- What a rule must answer. -/
structure Fair (V : ByteArray → ByteArray × Bool → Prop) (R : ByteArray → ByteArray × Bool → ByteArray × Bool → ByteArray × Bool → ByteArray × Bool) : Prop where
  none : ∀ k, V k (⟨#[]⟩, false)
  both : ∀ k p q, V k p → V k q → R k p q q = q
  left : ∀ k p r, V k p → V k r → R k p p r = r
  right : ∀ k p q, V k p → V k q → R k p q p = q
  norm : ∀ k p q r, (R k p q r).2 = false → R k p q r = (⟨#[]⟩, false)
/-- What a walk comes to. -/
structure RunSays (R : ByteArray → ByteArray × Bool → ByteArray × Bool → ByteArray × Bool → ByteArray × Bool) (o a b t : T) (ks : List ByteArray) : Prop where
  bal : t.bal
  srt : Srt t.list
  look : ∀ k, look k t.list = R k (look k o.list) (look k a.list) (look k b.list)
  keys : ∀ y ∈ t.list, (∃ x ∈ a.list, x.1 = y.1) ∨ (∃ x ∈ b.list, x.1 = y.1)
  asked : ∀ k ∈ ks, (∃ x ∈ a.list, x.1 = k) ∨ (∃ x ∈ b.list, x.1 = k)
  once : ks.Nodup
  few : ks.length ≤ a.n + b.n
  tn : t.n ≤ a.n + b.n
theorem Sides.valid {V : ByteArray → ByteArray × Bool → Prop} {k : ByteArray} {t a f b : T} (h : Sides k t a f b) (h0 : ∀ k, V k (⟨#[]⟩, false)) (hv : ∀ j, V j (Go.Proofs.YtkkpdgfllnbigaaGreatDoor.Pm.look j t.list)) : (∀ j, V j (Go.Proofs.YtkkpdgfllnbigaaGreatDoor.Pm.look j a.list)) ∧ (∀ j, V j (Go.Proofs.YtkkpdgfllnbigaaGreatDoor.Pm.look j b.list)) := by
  refine ⟨fun j => ?_, fun j => ?_⟩
  · rcases cmp_three j k with e | e | e
    · rw [← h.below j e]; exact hv j
    · subst e; rw [look_none (fun y hy => cmp_ne (h.less y hy))]; exact h0 _
    · rw [look_none (fun y hy => cmp_ne (ord_B.trans _ _ _ (h.less y hy) e))]; exact h0 _
  · rcases cmp_three j k with e | e | e
    · rw [look_none (fun y hy => (cmp_ne (ord_B.trans _ _ _ e (h.more y hy))).symm)]; exact h0 _
    · subst e; rw [look_none (fun y hy => (cmp_ne (h.more y hy)).symm)]; exact h0 _
    · rw [← h.above j e]; exact hv j
/-- What the two halves of a walk give for the whole. -/
structure Mid (R : ByteArray → ByteArray × Bool → ByteArray × Bool → ByteArray × Bool → ByteArray × Bool) (K : ByteArray) (o a b f g h t1 t2 : T) (ks1 ks2 : List ByteArray) : Prop where
  b1 : t1.bal
  b2 : t2.bal
  s1 : Srt t1.list
  s2 : Srt t2.list
  less : ∀ y ∈ t1.list, cmpB y.1 K = -1
  more : ∀ y ∈ t2.list, cmpB K y.1 = -1
  lookL : ∀ j, cmpB j K = -1 → look j t1.list = R j (look j o.list) (look j a.list) (look j b.list)
  lookM : R K f.part g.part h.part = R K (look K o.list) (look K a.list) (look K b.list)
  lookR : ∀ j, cmpB K j = -1 → look j t2.list = R j (look j o.list) (look j a.list) (look j b.list)
  keys1 : ∀ y ∈ t1.list, (∃ x ∈ a.list, x.1 = y.1) ∨ (∃ x ∈ b.list, x.1 = y.1)
  keys2 : ∀ y ∈ t2.list, (∃ x ∈ a.list, x.1 = y.1) ∨ (∃ x ∈ b.list, x.1 = y.1)
  key : (∃ x ∈ a.list, x.1 = K) ∨ (∃ x ∈ b.list, x.1 = K)
  asked : ∀ k ∈ ks1 ++ ks2 ++ [K], (∃ x ∈ a.list, x.1 = k) ∨ (∃ x ∈ b.list, x.1 = k)
  once : (ks1 ++ ks2 ++ [K]).Nodup
  few : (ks1 ++ ks2 ++ [K]).length ≤ a.n + b.n
  tn : t1.n + t2.n + 1 ≤ a.n + b.n
theorem Runs.mid {B : Nat} {R : ByteArray → ByteArray × Bool → ByteArray × Bool → ByteArray × Bool → ByteArray × Bool} {o a b o1 o2 f a1 a2 g b1 b2 h t1 t2 : T} {ks1 ks2 : List ByteArray} (n1 : a ≠ b) (so : Splits B (topK a b) o o1 f o2) (sa : Splits B (topK a b) a a1 g a2) (sb : Splits B (topK a b) b b1 h b2)
    (So : Srt o.list) (Sa : Srt a.list) (Sb : Srt b.list) (i1 : RunSays R o1 a1 b1 t1 ks1) (i2 : RunSays R o2 a2 b2 t2 ks2) : Mid R (topK a b) o a b f g h t1 t2 ks1 ks2 := by
  have xo := so.sides So
  have xa := sa.sides Sa
  have xb := sb.sides Sb
  have hth := top_has n1 sa sb Sa Sb
  generalize topK a b = K at *
  have hkey : (∃ x ∈ a.list, x.1 = K) ∨ (∃ x ∈ b.list, x.1 = K) := by
    rcases hth with e | e
    · left; exact look_mem (by rw [xa.at_]; exact e)
    · right; exact look_mem (by rw [xb.at_]; exact e)
  have hl : ∀ {k : ByteArray}, ((∃ x ∈ a1.list, x.1 = k) ∨ (∃ x ∈ b1.list, x.1 = k)) → cmpB k K = -1 := fun {k} hk => by
    rcases hk with ⟨x, hx, rfl⟩ | ⟨x, hx, rfl⟩
    · exact xa.less x hx
    · exact xb.less x hx
  have hm : ∀ {k : ByteArray}, ((∃ x ∈ a2.list, x.1 = k) ∨ (∃ x ∈ b2.list, x.1 = k)) → cmpB K k = -1 := fun {k} hk => by
    rcases hk with ⟨x, hx, rfl⟩ | ⟨x, hx, rfl⟩
    · exact xa.more x hx
    · exact xb.more x hx
  have up1 : ∀ {k : ByteArray}, ((∃ x ∈ a1.list, x.1 = k) ∨ (∃ x ∈ b1.list, x.1 = k)) → (∃ x ∈ a.list, x.1 = k) ∨ (∃ x ∈ b.list, x.1 = k) := fun {k} hk => by
    rcases hk with ⟨x, hx, e⟩ | ⟨x, hx, e⟩
    · exact .inl ⟨x, xa.inA x hx, e⟩
    · exact .inr ⟨x, xb.inA x hx, e⟩
  have up2 : ∀ {k : ByteArray}, ((∃ x ∈ a2.list, x.1 = k) ∨ (∃ x ∈ b2.list, x.1 = k)) → (∃ x ∈ a.list, x.1 = k) ∨ (∃ x ∈ b.list, x.1 = k) := fun {k} hk => by
    rcases hk with ⟨x, hx, e⟩ | ⟨x, hx, e⟩
    · exact .inl ⟨x, xa.inB x hx, e⟩
    · exact .inr ⟨x, xb.inB x hx, e⟩
  have hcount : a1.n + a2.n + b1.n + b2.n + 1 ≤ a.n + b.n := by
    have e1 := xa.n
    have e2 := xb.n
    rcases hth with e | e
    · rw [e] at e1; simp at e1; omega
    · rw [e] at e2; simp at e2; omega
  have f1 := i1.few
  have f2 := i2.few
  have u1 := i1.tn
  have u2 := i2.tn
  refine ⟨i1.bal, i2.bal, i1.srt, i2.srt, fun y hy => hl (i1.keys y hy), fun y hy => hm (i2.keys y hy), fun j hj => ?_, ?_, fun j hj => ?_, fun y hy => up1 (i1.keys y hy), fun y hy => up2 (i2.keys y hy), hkey, fun k hk => ?_, ?_, ?_, by omega⟩
  · rw [i1.look j, xo.below j hj, xa.below j hj, xb.below j hj]
  · rw [xo.at_, xa.at_, xb.at_]; rfl
  · rw [i2.look j, xo.above j hj, xa.above j hj, xb.above j hj]
  · simp only [List.mem_append, List.mem_singleton] at hk
    rcases hk with (hk | hk) | hk
    · exact up1 (i1.asked k hk)
    · exact up2 (i2.asked k hk)
    · subst hk; exact hkey
  · rw [List.nodup_append, List.nodup_append]
    refine ⟨⟨i1.once, i2.once, fun x hx y hy e => ?_⟩, by simp, fun x hx y hy e => ?_⟩
    · subst e
      exact cmp_ne (ord_B.trans _ _ _ (hl (i1.asked x hx)) (hm (i2.asked x hy))) rfl
    · simp only [List.mem_singleton] at hy
      subst hy
      subst e
      rcases List.mem_append.1 hx with hx | hx
      · exact cmp_ne (hl (i1.asked x hx)) rfl
      · exact cmp_ne (hm (i2.asked x hx)) rfl
  · simp only [List.length_append, List.length_singleton]
    omega
theorem Runs.says {B : Nat} {V : ByteArray → ByteArray × Bool → Prop} {R : ByteArray → ByteArray × Bool → ByteArray × Bool → ByteArray × Bool → ByteArray × Bool} (hR : Fair V R) {o a b t : T} {ks : List ByteArray} (h : Runs B R o a b t ks) :
    Srt o.list → Srt a.list → Srt b.list → o.bal → a.bal → b.bal → (∀ k, V k (look k o.list)) → (∀ k, V k (look k a.list)) → (∀ k, V k (look k b.list)) → RunSays R o a b t ks := by
  induction h with
  | @same o a =>
    intro so sa _ _ ba _ vo va _
    exact ⟨ba, sa, fun k => (hR.both k _ _ (vo k) (va k)).symm, fun y hy => .inl ⟨y, hy, rfl⟩, by simp, List.nodup_nil, by simp, by omega⟩
  | @left o b hne =>
    intro so _ sb _ _ bb vo _ vb
    exact ⟨bb, sb, fun k => (hR.left k _ _ (vo k) (vb k)).symm, fun y hy => .inr ⟨y, hy, rfl⟩, by simp, List.nodup_nil, by simp, by omega⟩
  | @right o a hne =>
    intro so sa _ _ ba _ vo va _
    exact ⟨ba, sa, fun k => (hR.right k _ _ (vo k) (va k)).symm, fun y hy => .inl ⟨y, hy, rfl⟩, by simp, List.nodup_nil, by simp, by omega⟩
  | @joins o a b o1 o2 f a1 a2 g b1 b2 h t1 t2 t ks1 ks2 v n1 n2 n3 so sa sb r1 r2 hr hj ih1 ih2 =>
    intro So Sa Sb Bo Ba Bb Vo Va Vb
    obtain ⟨vo1, vo2⟩ := (so.sides So).valid hR.none Vo
    obtain ⟨va1, va2⟩ := (sa.sides Sa).valid hR.none Va
    obtain ⟨vb1, vb2⟩ := (sb.sides Sb).valid hR.none Vb
    have i1 := ih1 (so.sides So).asrt (sa.sides Sa).asrt (sb.sides Sb).asrt (so.bal Bo).1 (sa.bal Ba).1 (sb.bal Bb).1 vo1 va1 vb1
    have i2 := ih2 (so.sides So).bsrt (sa.sides Sa).bsrt (sb.sides Sb).bsrt (so.bal Bo).2 (sa.bal Ba).2 (sb.bal Bb).2 vo2 va2 vb2
    have m := Runs.mid n1 so sa sb So Sa Sb i1 i2
    have hl : t.list = t1.list ++ (topK a b, v) :: t2.list := hj.list
    obtain ⟨q1, q2, q3⟩ := look_mid (v := v) m.less m.more
    refine ⟨(hj.says m.b1 m.b2).bal, by rw [hl]; exact Srt.app.2 ⟨m.s1, m.s2, m.less, m.more⟩, fun k => ?_, fun y hy => ?_, m.asked, m.once, m.few, ?_⟩
    · rw [hl]
      rcases cmp_three k (topK a b) with e | e | e
      · rw [q2 k e, m.lookL k e]
      · rw [e, q1, ← m.lookM, hr]
      · rw [q3 k e, m.lookR k e]
    · rw [hl] at hy
      rcases List.mem_append.1 hy with hy | hy
      · exact m.keys1 y hy
      · rcases List.mem_cons.1 hy with rfl | hy
        · exact m.key
        · exact m.keys2 y hy
    · have := congrArg List.length hl
      simp only [List.length_append, List.length_cons, T.n_eq] at this
      have := m.tn
      omega
  | @closes o a b o1 o2 f a1 a2 g b1 b2 h t1 t2 t ks1 ks2 v n1 n2 n3 so sa sb r1 r2 hr hj hb ih1 ih2 =>
    intro So Sa Sb Bo Ba Bb Vo Va Vb
    obtain ⟨vo1, vo2⟩ := (so.sides So).valid hR.none Vo
    obtain ⟨va1, va2⟩ := (sa.sides Sa).valid hR.none Va
    obtain ⟨vb1, vb2⟩ := (sb.sides Sb).valid hR.none Vb
    have i1 := ih1 (so.sides So).asrt (sa.sides Sa).asrt (sb.sides Sb).asrt (so.bal Bo).1 (sa.bal Ba).1 (sb.bal Bb).1 vo1 va1 vb1
    have i2 := ih2 (so.sides So).bsrt (sa.sides Sa).bsrt (sb.sides Sb).bsrt (so.bal Bo).2 (sa.bal Ba).2 (sb.bal Bb).2 vo2 va2 vb2
    have m := Runs.mid n1 so sa sb So Sa Sb i1 i2
    have hl : t.list = t1.list ++ t2.list := hj.list m.s2
    obtain ⟨q1, q2, q3⟩ := look_two m.less m.more
    refine ⟨hb m.b1 m.b2, ?_, fun k => ?_, fun y hy => ?_, m.asked, m.once, m.few, ?_⟩
    · rw [hl]
      exact List.pairwise_append.2 ⟨m.s1, m.s2, fun x hx y hy => ord_B.trans _ _ _ (m.less x hx) (m.more y hy)⟩
    · rw [hl]
      rcases cmp_three k (topK a b) with e | e | e
      · rw [q2 k e, m.lookL k e]
      · rw [e, q1, ← m.lookM]
        exact (hR.norm _ _ _ _ (by rw [hr])).symm
      · rw [q3 k e, m.lookR k e]
    · rw [hl] at hy
      rcases List.mem_append.1 hy with hy | hy
      · exact m.keys1 y hy
      · exact m.keys2 y hy
    · have := congrArg List.length hl
      simp only [List.length_append, T.n_eq] at this
      have := m.tn
      omega
end Go.Proofs.YtkkpdgfllnbigaaGreatDoor.Pm
namespace Go.Proofs.YtkkpdgfllnbigaaGreatDoor.Pm
open Go.RowKit Go.Shelf
set_option linter.unusedSimpArgs false

end Go.Proofs.YtkkpdgfllnbigaaGreatDoor.Pm
namespace Go.Proofs.YtkkpdgfllnbigaaGreatDoor.Pm
open Go.RowKit Go.Shelf
set_option linter.unusedSimpArgs false

section
variable {P : Program} {md : Region.Mode} {ops : Array Oper} {Q : Exit → Act → World → Prop} {S : World → Prop}
theorem AllReadyH.call {i : Nat} {oi : Oper} {d : Tmp} {OP : Op} {T : TypeId} {f : FuncId} {args : Array Value} {fuel : Nat} {listed : Array Bool} {a : Act} {w : World} {rs : List Nat} (hi : ops[i]? = some oi) (hd : oi.dst = some d) (ho : oi.op = OP) (ht : oi.type = T) (hw : Region.wanted oi (yielded ops a.tmps) = true)
    (hy : (execOp a.eval { dst := none, op := OP, type := T, pos := "", after := #[], guard := none }).run P w = .ok (.enter f args) w)
    (h : Calls P f args w fun e w' => ∃ v, e = .returned v ∧ S w' ∧ wpAnyH P md ops Q S fuel (listed.setIfInBounds i true) (a.put (some d) v) w')
    (hs : AllReadyH P md ops Q S fuel listed a w rs) : AllReadyH P md ops Q S fuel listed a w (i :: rs) := by
  refine AllReadyH.cons hi (fun K hK => ?_) hs
  rw [if_pos hw]
  unfold Oper.wp
  rw [exec_same a.eval oi ho ht, hy]
  refine Calls.mono h ?_
  rintro e w' ⟨v, rfl, hS, hx⟩
  show K (a.put oi.dst v) w'
  rw [hd]
  exact hK.out _ _ hS (fun _ => hx)
end
end Go.Proofs.YtkkpdgfllnbigaaGreatDoor.Pm
namespace Go.Proofs.YtkkpdgfllnbigaaGreatDoor.Pm
open Go.RowKit Go.Shelf
set_option linter.unusedSimpArgs false

/-- The types of the walk's own blocks. -/
def keepTy (e : TypeId) : Prop := e = 43 ∨ e = 213 ∨ e = 127 ∨ e = 208 ∨ e = 180
/-- Old blocks stand, and those of the walk's own types. -/
structure Goes (B Tk : Nat) (W W' : World) : Prop where
  low : Below B W W'
  own : ∀ (j : Nat) (cur : Array Value) (e : TypeId) (fr : Nat × Nat), W.heap[j]? = some (Obj.cells cur e fr) → keepTy e → W'.heap[j]? = some (Obj.cells cur e fr)
  cnt : ∀ (j : Nat) (cur : Array Value) (fr : Nat × Nat), W.heap[j]? = some (Obj.cells cur 136 fr) → j ≠ Tk → W'.heap[j]? = some (Obj.cells cur 136 fr)
theorem Goes.refl (B Tk : Nat) (W : World) : Goes B Tk W W := ⟨Below.refl _ _, fun _ _ _ _ h _ => h, fun _ _ _ h _ => h⟩
theorem Goes.trans {B Tk : Nat} {a b c : World} (h : Goes B Tk a b) (k : Goes B Tk b c) : Goes B Tk a c := ⟨h.low.trans k.low, fun j cur e fr hj he => k.own j cur e fr (h.own j cur e fr hj he) he, fun j cur fr hj he => k.cnt j cur fr (h.cnt j cur fr hj he) he⟩
theorem Goes.of {B Tk : Nat} {W W' : World} (h : Below W.heap.size W W') (hB : B ≤ W.heap.size) : Goes B Tk W W' := ⟨h.mono hB, fun _ _ _ _ hj _ => (h.block _ (gI hj).1).trans hj, fun _ _ _ hj _ => (h.block _ (gI hj).1).trans hj⟩
theorem In.goes {B Tk : Nat} {W W' : World} (h : Goes B Tk W W') : ∀ {t : T}, In W t → In W' t
  | .nil, _ => trivial
  | .node _ _ _ _ _, ⟨h1, h2, h3⟩ => ⟨h.own _ _ _ _ h1 (.inr (.inr (.inl rfl))), In.goes h h2, In.goes h h3⟩
/-- A block that is no block of the walk's own types is written. -/
theorem Goes.set {B Tk i : Nat} {W : World} {cs : Array Value} {ty : TypeId} (v : Value) (h : W.heap[Tk]? = some (.cells cs ty (0, 0))) (hB : B ≤ Tk) (hty : ¬ keepTy ty) : Goes B Tk W (W.setCell ⟨Tk, i, none⟩ v) := by
  obtain ⟨_, o⟩ := set_one (i := i) v h
  refine ⟨(Below.refl _ W).setCell (p := ⟨Tk, i, none⟩) hB _, fun j cur e fr hj he => ?_, fun j cur fr hj hne => (o.block j (gI hj).1 hne).trans hj⟩
  refine (o.block j (gI hj).1 (fun d => ?_)).trans hj
  subst d
  rw [h] at hj
  simp only [Option.some.injEq, Obj.cells.injEq] at hj
  exact hty (hj.2.1 ▸ he)
/-- A rule that may be asked. -/
structure RuleOk (A : ByteArray → ByteArray × Bool → ByteArray × Bool → ByteArray × Bool → Prop) (B Tk : Nat) (g : Nat) (caps : Array Value) (R : ByteArray → ByteArray × Bool → ByteArray × Bool → ByteArray × Bool → ByteArray × Bool) (J : List ByteArray → World → Prop) : Prop where
  enter : ∀ (args : Array Value) (W : World), (callFunc g args).run Tryz.prog W = .ok (.enter g args) W
  call : ∀ (W : World) (ks : List ByteArray) (k : ByteArray) (p q r : ByteArray × Bool), B ≤ W.heap.size → A k p q r → ks.length ≤ 100000 → J ks W → Calls Tryz.prog g (#[.string k, pv p, pv q, pv r] ++ caps) W fun e W' => (∃ v, e = .returned (.tuple #[.string v, .bool (R k p q r).2]) ∧ ((R k p q r).2 = true → v = (R k p q r).1)) ∧ J (ks ++ [k]) W' ∧ Goes B Tk W W' ∧ ∀ (cur : Array Value) (fr : Nat × Nat), W.heap[Tk]? = some (.cells cur 136 fr) → W'.heap[Tk]? = some (.cells cur 136 fr)
  stay : ∀ (ks : List ByteArray) (W W' : World), J ks W → (∀ (j : Nat) (cur : Array Value) (e : TypeId) (fr : Nat × Nat), W.heap[j]? = some (Obj.cells cur e fr) → (j < B ∨ (e ≠ 43 ∧ e ≠ 213 ∧ (j ≠ Tk ∨ e ≠ 136))) → W'.heap[j]? = some (Obj.cells cur e fr)) → J ks W'
theorem RuleOk.box {A : ByteArray → ByteArray × Bool → ByteArray × Bool → ByteArray × Bool → Prop} {B Tk g C : Nat} {caps : Array Value} {R : ByteArray → ByteArray × Bool → ByteArray × Bool → ByteArray × Bool → ByteArray × Bool} {J : List ByteArray → World → Prop} (h : RuleOk A B Tk g caps R J) {ks : List ByteArray} {W W' : World} {u : Value} (hj : J ks W) (hC : W.heap[C]? = some (.cells #[u] 43 (0, 0))) (o : Only (fun j => j = C) W W') (hBC : B ≤ C) : J ks W' :=
  h.stay ks W W' hj (fun j cur e fr hjj hor => (o.block _ (gI hjj).1 (fun d => by
    rcases hor with hlt | ⟨h29, _, _⟩
    · omega
    · rw [d, hC] at hjj; simp only [Option.some.injEq, Obj.cells.injEq] at hjj; exact h29 hjj.2.1.symm)).trans hjj)
theorem RuleOk.set {A : ByteArray → ByteArray × Bool → ByteArray × Bool → ByteArray × Bool → Prop} {B Tk g : Nat} {caps : Array Value} {R : ByteArray → ByteArray × Bool → ByteArray × Bool → ByteArray × Bool → ByteArray × Bool} {J : List ByteArray → World → Prop} (h : RuleOk A B Tk g caps R J) {ks : List ByteArray} {W W' : World} (hj : J ks W) (o : Only (fun j => j = Tk) W W') (hB : B ≤ Tk) {cs : Array Value} {fr : Nat × Nat} (hT : W.heap[Tk]? = some (.cells cs 136 fr)) : J ks W' :=
  h.stay ks W W' hj (fun j cur e fr hjj hor => (o.block _ (gI hjj).1 (fun d => by
    rcases hor with hlt | ⟨_, _, hne | hne⟩
    · omega
    · exact hne d
    · rw [d, hT] at hjj; simp only [Option.some.injEq, Obj.cells.injEq] at hjj; exact hne hjj.2.1.symm)).trans hjj)
theorem RuleOk.below {A : ByteArray → ByteArray × Bool → ByteArray × Bool → ByteArray × Bool → Prop} {B Tk g : Nat} {caps : Array Value} {R : ByteArray → ByteArray × Bool → ByteArray × Bool → ByteArray × Bool → ByteArray × Bool} {J : List ByteArray → World → Prop} (h : RuleOk A B Tk g caps R J) {ks : List ByteArray} {W W' : World} (hj : J ks W) (hb : Below W.heap.size W W') : J ks W' :=
  h.stay ks W W' hj (fun _ _ _ _ hj _ => (hb.block _ (gI hj).1).trans hj)
/-- Three maps that may be run together. -/
structure Trio (V : ByteArray → ByteArray × Bool → Prop) (W : World) (o a b : T) : Prop where
  io : In W o
  ia : In W a
  ib : In W b
  so : Srt o.list
  sa : Srt a.list
  sb : Srt b.list
  bo : o.bal
  ba : a.bal
  bb : b.bal
  vo : ∀ k, V k (look k o.list)
  va : ∀ k, V k (look k a.list)
  vb : ∀ k, V k (look k b.list)
  no : o.n ≤ 1000
  nab : a.n + b.n ≤ 1000
theorem Trio.goes {V : ByteArray → ByteArray × Bool → Prop} {B Tk : Nat} {W W' : World} {o a b : T} (h : Trio V W o a b) (hg : Goes B Tk W W') : Trio V W' o a b := ⟨In.goes hg h.io, In.goes hg h.ia, In.goes hg h.ib, h.so, h.sa, h.sb, h.bo, h.ba, h.bb, h.vo, h.va, h.vb, h.no, h.nab⟩
/-- The two sides of three maps that are split. -/
theorem Trio.sides {V : ByteArray → ByteArray × Bool → Prop} {B : Nat} {W W' : World} {K : ByteArray} {o a b o1 o2 f a1 a2 g b1 b2 h : T} (ht : Trio V W o a b) (h0 : ∀ k, V k (⟨#[]⟩, false)) (so : Splits B K o o1 f o2) (sa : Splits B K a a1 g a2) (sb : Splits B K b b1 h b2) (i1 : In W' o1) (i2 : In W' o2) (i3 : In W' a1) (i4 : In W' a2) (i5 : In W' b1) (i6 : In W' b2) : Trio V W' o1 a1 b1 ∧ Trio V W' o2 a2 b2 := by
  have xo := so.sides ht.so
  have xa := sa.sides ht.sa
  have xb := sb.sides ht.sb
  obtain ⟨vo1, vo2⟩ := xo.valid h0 ht.vo
  obtain ⟨va1, va2⟩ := xa.valid h0 ht.va
  obtain ⟨vb1, vb2⟩ := xb.valid h0 ht.vb
  have e1 := xo.n
  have e2 := xa.n
  have e3 := xb.n
  have e4 := ht.no
  have e5 := ht.nab
  exact ⟨⟨i1, i3, i5, xo.asrt, xa.asrt, xb.asrt, (so.bal ht.bo).1, (sa.bal ht.ba).1, (sb.bal ht.bb).1, vo1, va1, vb1, by omega, by omega⟩, ⟨i2, i4, i6, xo.bsrt, xa.bsrt, xb.bsrt, (so.bal ht.bo).2, (sa.bal ht.ba).2, (sb.bal ht.bb).2, vo2, va2, vb2, by omega, by omega⟩⟩
/-- What the rule may be asked. -/
def AskOk (A : ByteArray → ByteArray × Bool → ByteArray × Bool → ByteArray × Bool → Prop) (o a b : T) : Prop := ∀ k, ((look k a.list).2 = true ∨ (look k b.list).2 = true) → A k (look k o.list) (look k a.list) (look k b.list)
theorem Sides.left_key {K k : ByteArray} {t a f b : T} (h : Sides K t a f b) (hk : (look k a.list).2 = true) : cmpB k K = -1 := by
  obtain ⟨y, hy, rfl⟩ := look_mem hk
  exact h.less y hy
theorem Sides.right_key {K k : ByteArray} {t a f b : T} (h : Sides K t a f b) (hk : (look k b.list).2 = true) : cmpB K k = -1 := by
  obtain ⟨y, hy, rfl⟩ := look_mem hk
  exact h.more y hy
theorem AskOk.sides {A : ByteArray → ByteArray × Bool → ByteArray × Bool → ByteArray × Bool → Prop} {K : ByteArray} {o a b o1 o2 f a1 a2 g b1 b2 h : T} (hk : AskOk A o a b) (xo : Sides K o o1 f o2) (xa : Sides K a a1 g a2) (xb : Sides K b b1 h b2) : AskOk A o1 a1 b1 ∧ AskOk A o2 a2 b2 := by
  refine ⟨fun k hh => ?_, fun k hh => ?_⟩
  · have hc : cmpB k K = -1 := hh.elim xa.left_key xb.left_key
    have := hk k (by rw [xa.below k hc, xb.below k hc]; exact hh)
    rw [xo.below k hc, xa.below k hc, xb.below k hc] at this
    exact this
  · have hc : cmpB K k = -1 := hh.elim xa.right_key xb.right_key
    have := hk k (by rw [xa.above k hc, xb.above k hc]; exact hh)
    rw [xo.above k hc, xa.above k hc, xb.above k hc] at this
    exact this
theorem Closes.mono {B B' : Nat} {l r t : T} (h : Closes B' l r t) (hB : B ≤ B') : Closes B l r t := by
  rcases h with h | ⟨hn, r', t0, ht, hj, e⟩
  · exact .inl h
  · exact .inr ⟨hn, r', t0, ht.mono hB, hj.mono hB, e⟩
theorem Runs.mono {B B' : Nat} {R : ByteArray → ByteArray × Bool → ByteArray × Bool → ByteArray × Bool → ByteArray × Bool} {o a b t : T} {ks : List ByteArray} (h : Runs B' R o a b t ks) (hB : B ≤ B') : Runs B R o a b t ks := by
  induction h with
  | same => exact .same
  | left h => exact .left h
  | right h => exact .right h
  | joins n1 n2 n3 so sa sb _ _ hr hj ih1 ih2 => exact .joins n1 n2 n3 (so.mono hB) (sa.mono hB) (sb.mono hB) ih1 ih2 hr (hj.mono hB)
  | closes n1 n2 n3 so sa sb _ _ hr hj hb ih1 ih2 => exact .closes n1 n2 n3 (so.mono hB) (sa.mono hB) (sb.mono hB) ih1 ih2 hr (hj.mono hB) hb
end Go.Proofs.YtkkpdgfllnbigaaGreatDoor.Pm
namespace Go.Proofs.YtkkpdgfllnbigaaGreatDoor.Pm
open Go.RowKit Go.Shelf
set_option linter.unusedSimpArgs false

end Go.Proofs.YtkkpdgfllnbigaaGreatDoor.Pm
namespace Go.Proofs.YtkkpdgfllnbigaaGreatDoor.Pm
open Go.RowKit Go.Shelf
set_option linter.unusedSimpArgs false

end Go.Proofs.YtkkpdgfllnbigaaGreatDoor.Pm
namespace Go.Proofs.YtkkpdgfllnbigaaGreatDoor.Pm
open Go.RowKit Go.Shelf
set_option linter.unusedSimpArgs false

end Go.Proofs.YtkkpdgfllnbigaaGreatDoor.Pm
namespace Go.Proofs.YtkkpdgfllnbigaaGreatDoor.Pm
open Go.RowKit Go.Shelf
set_option linter.unusedSimpArgs false

theorem set3 {w : World} {B : Nat} {x0 x1 x2 : Value} {ty : TypeId} (a b c : Value) (h : w.heap[B]? = some (.cells #[x0, x1, x2] ty (0, 0))) : (((w.setCell ⟨B, 0, none⟩ a).setCell ⟨B, 1, none⟩ b).setCell ⟨B, 2, none⟩ c).heap[B]? = some (.cells #[a, b, c] ty (0, 0)) ∧ Only (fun j => j = B) w (((w.setCell ⟨B, 0, none⟩ a).setCell ⟨B, 1, none⟩ b).setCell ⟨B, 2, none⟩ c) := by
  obtain ⟨h1, o1⟩ := set_one (i := 0) a h
  obtain ⟨h2, o2⟩ := set_one (i := 1) b h1
  obtain ⟨h3, o3⟩ := set_one (i := 2) c h2
  exact ⟨by simpa using h3, (o1.trans o2 (fun _ _ e => e)).trans o3 (fun _ _ e => e)⟩
end Go.Proofs.YtkkpdgfllnbigaaGreatDoor.Pm
namespace Go.Proofs.YtkkpdgfllnbigaaGreatDoor.Pm
open Go.RowKit Go.Shelf
set_option linter.unusedSimpArgs false

end Go.Proofs.YtkkpdgfllnbigaaGreatDoor.Pm
namespace Go.Proofs.YtkkpdgfllnbigaaGreatDoor.Pm
open Go.RowKit Go.Shelf
set_option linter.unusedSimpArgs false

end Go.Proofs.YtkkpdgfllnbigaaGreatDoor.Pm
namespace Go.Proofs.YtkkpdgfllnbigaaGreatDoor.Pm
open Go.RowKit Go.Shelf
set_option linter.unusedSimpArgs false

end Go.Proofs.YtkkpdgfllnbigaaGreatDoor.Pm
namespace Go.Proofs.YtkkpdgfllnbigaaGreatDoor.Pm
open Go.RowKit Go.Shelf
set_option linter.unusedSimpArgs false
end Go.Proofs.YtkkpdgfllnbigaaGreatDoor.Pm
namespace Go.Proofs.YtkkpdgfllnbigaaGreatDoor
open Go.RowKit Go.Shelf
set_option linter.unusedSimpArgs false
attribute [local go_sem] Oper.semAt_some

/-- A map that is whole. -/
structure Mg (w : World) (t : Pm.T) : Prop where
  inn : Pm.In w t
  srt : Pm.Srt t.list
  bal : t.bal
  few : t.n ≤ 400
  key : ∀ x ∈ t.list, x.1.size ≤ 9223372036854775807
theorem Mg.below {w w' : World} {t : Pm.T} (h : Mg w t) (hb : Below w.heap.size w w') : Mg w' t := ⟨Pm.In.below hb h.inn, h.srt, h.bal, h.few, h.key⟩
theorem Mg.nil (w : World) : Mg w .nil := ⟨trivial, List.Pairwise.nil, trivial, Nat.zero_le _, fun x h => by cases h⟩
end Go.Proofs.YtkkpdgfllnbigaaGreatDoor
namespace Go.Proofs.YtkkpdgfllnbigaaGreatDoor
open Go.RowKit Go.Shelf
set_option linter.unusedSimpArgs false

theorem equalIn48 (d : Nat) (r r' : Int) (l l' : ByteArray) (w : World) : (Op.equalIn (d + 2) 23 (bv r l) (bv r' l')).run Tryz.prog w = .ok (r == r' && l.toList == l'.toList) w := by
  have hS : Tryz.prog.underlying 23 = some (.struct (Tryz.prog.fieldsOf 23)) := by kernel_rfl
  have hp : Tryz.prog.stoodInHeld 23 = false := by kernel_rfl
  rw [run_equalIn_agg w (d + 1) 23 _ _ hS hp]
  simp only [Program.fieldsOf, Tryz.underlying23]
  go_simp
  by_cases h1 : r = r' <;> by_cases h2 : l.toList = l'.toList <;> simp [h1, h2]
theorem equalIn50 (d : Nat) (r r' n n' : Int) (l l' : ByteArray) (w : World) : (Op.equalIn (d + 3) 25 (nv r l n) (nv r' l' n')).run Tryz.prog w = .ok (r == r' && l.toList == l'.toList && n == n') w := by
  have hS : Tryz.prog.underlying 25 = some (.struct (Tryz.prog.fieldsOf 25)) := by kernel_rfl
  have hp : Tryz.prog.stoodInHeld 25 = false := by kernel_rfl
  have h48 := equalIn48 d r r' l l'
  rw [run_equalIn_agg w (d + 2) 25 _ _ hS hp]
  simp only [Program.fieldsOf, Tryz.underlying25]
  go_simp
  by_cases h1 : r = r' <;> by_cases h2 : l.toList = l'.toList <;> by_cases h3 : n = n' <;> simp [h1, h2, h3]
theorem equalIn52 (d : Nat) (g g' r r' n n' x x' : Int) (l l' : ByteArray) (w : World) : (Op.equalIn (d + 4) 27 (sv g r l n x) (sv g' r' l' n' x')).run Tryz.prog w = .ok (g == g' && (r == r' && l.toList == l'.toList && n == n') && x == x') w := by
  have hS : Tryz.prog.underlying 27 = some (.struct (Tryz.prog.fieldsOf 27)) := by kernel_rfl
  have hp : Tryz.prog.stoodInHeld 27 = false := by kernel_rfl
  have h50 := equalIn50 d r r' n n' l l'
  rw [run_equalIn_agg w (d + 3) 27 _ _ hS hp]
  simp only [Program.fieldsOf, Tryz.underlying27]
  go_simp
  by_cases h0 : g = g' <;> by_cases h1 : r = r' <;> by_cases h2 : l.toList = l'.toList <;> by_cases h3 : n = n' <;> by_cases h4 : x = x' <;> simp [h0, h1, h2, h3, h4]
theorem equalIn77 (d : Nat) (g g' r r' n n' x x' : Int) (l l' t t' : ByteArray) (w : World) : (Op.equalIn (d + 5) 33 (ev ((g, r, l, n, x), t)) (ev ((g', r', l', n', x'), t'))).run Tryz.prog w = .ok (g == g' && (r == r' && l.toList == l'.toList && n == n') && x == x' && t.toList == t'.toList) w := by
  have hS : Tryz.prog.underlying 33 = some (.struct (Tryz.prog.fieldsOf 33)) := by kernel_rfl
  have hp : Tryz.prog.stoodInHeld 33 = false := by kernel_rfl
  have h52 := equalIn52 d g g' r r' n n' x x' l l'
  rw [run_equalIn_agg w (d + 4) 33 _ _ hS hp]
  simp only [Program.fieldsOf, Tryz.underlying33]
  go_simp
  by_cases h0 : g = g' <;> by_cases h1 : r = r' <;> by_cases h2 : l.toList = l'.toList <;> by_cases h3 : n = n' <;> by_cases h4 : x = x' <;> by_cases h5 : t.toList = t'.toList <;> simp [h0, h1, h2, h3, h4, h5]
/-- Are two elements one? -/
def sameE (x y : El) : Bool := x.1.1 == y.1.1 && (x.1.2.1 == y.1.2.1 && x.1.2.2.1.toList == y.1.2.2.1.toList && x.1.2.2.2.1 == y.1.2.2.2.1) && x.1.2.2.2.2 == y.1.2.2.2.2 && x.2.toList == y.2.toList
theorem bytes_same {a b : ByteArray} : (a.toList == b.toList) = true ↔ a = b := by
  rw [beq_iff_eq, ByteArray.toList_eq, ByteArray.toList_eq]
  exact ⟨fun h => ba_eq h, fun h => by rw [h]⟩
theorem sameE_iff (x y : El) : sameE x y = true ↔ x = y := by
  obtain ⟨⟨g, r, l, n, i⟩, t⟩ := x
  obtain ⟨⟨g', r', l', n', i'⟩, t'⟩ := y
  unfold sameE
  simp only [Bool.and_eq_true, bytes_same, Prod.mk.injEq]
  simp only [beq_iff_eq]
  constructor
  · rintro ⟨⟨⟨rfl, ⟨rfl, rfl⟩, rfl⟩, rfl⟩, rfl⟩; exact ⟨⟨rfl, rfl, rfl, rfl, rfl⟩, rfl⟩
  · rintro ⟨⟨rfl, rfl, rfl, rfl, rfl⟩, rfl⟩; exact ⟨⟨⟨rfl, ⟨rfl, rfl⟩, rfl⟩, rfl⟩, rfl⟩
theorem sameE_dec (x y : El) : sameE x y = decide (x = y) := by
  rw [Bool.eq_iff_iff, sameE_iff, decide_eq_true_eq]
theorem run_ne77 (x y : El) (w : World) : (binOp .neq 33 (ev x) (ev y)).run Tryz.prog w = .ok (.bool (!decide (x = y))) w := by
  rw [run_neq_struct, show (10000 : Nat) = 9995 + 5 from rfl, equalIn77, ← sameE_dec]
  rfl
end Go.Proofs.YtkkpdgfllnbigaaGreatDoor
namespace Go.Proofs.YtkkpdgfllnbigaaGreatDoor
open Go.RowKit Go.Shelf
set_option linter.unusedSimpArgs false
attribute [local go_sem] Oper.semAt_some

theorem keyT_any (s : St) (w : World) : Calls Tryz.prog 20 #[svT s] w fun e w' => e = .returned (.tuple #[.string (if stV s then keyT s else ⟨#[]⟩), .int .i64 (if stV s then 0 else 2)]) ∧ Below w.heap.size w w' := key_any s.1 s.2.1 s.2.2.1 s.2.2.2.1 s.2.2.2.2 w
theorem new4r (w : World) (o1 o2 o3 : Obj) (W : World) (hW : W = ((w.alloc o1).alloc o2).alloc o3) : W.heap[w.heap.size]? = some o1 ∧ W.heap[w.heap.size + 1]? = some o2 ∧ W.heap[w.heap.size + 1 + 1]? = some o3 ∧ Below w.heap.size w W := by rw [hW]; exact new3r w o1 o2 o3
theorem T27 : (Tryz.prog.info? 43).map (·.size) = some 1 := by kernel_rfl
end Go.Proofs.YtkkpdgfllnbigaaGreatDoor
namespace Go.Proofs.YtkkpdgfllnbigaaGreatDoor.Pm
/-- A tree has a node at a block. -/
def T.atB (q : Nat) : T → Prop
  | .nil => False
  | .node p _ _ l r => p = q ∨ l.atB q ∨ r.atB q
/-- All nodes lie from a block on. -/
def T.over (B : Nat) (t : T) : Prop := ∀ q, t.atB q → B ≤ q
theorem T.over.mono {B B' : Nat} {t : T} (h : t.over B') (hB : B ≤ B') : t.over B := fun q hq => Nat.le_trans hB (h q hq)
theorem T.over_nil {B : Nat} : T.over B .nil := fun _ h => h.elim
theorem T.over_node {B p k v l r} (hp : B ≤ p) (hl : T.over B l) (hr : T.over B r) : T.over B (.node p k v l r) := fun q h => by
  rcases h with rfl | h | h
  · exact hp
  · exact hl q h
  · exact hr q h
end Go.Proofs.YtkkpdgfllnbigaaGreatDoor.Pm
