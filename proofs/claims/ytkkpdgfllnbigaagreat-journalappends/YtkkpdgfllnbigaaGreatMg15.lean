/-
  stamp: keys are ordered as stamps are.
  register: Of (33).
  The document's SameElements 65, Same 24, SameTexts 31; the laws' at 38.
  register: the law's small functions: at (46), num (35), the document's Text (55).
  register: the chapter's rows (known 32).
  REFKEY: the document's own key of a stamp.
  REFOK: the document's reading of a key.
  register: what the reference says of a map (ref12.Map 41), Three where it refuses (45), going over nothing (48).
  register: going over a map that may not be tells nothing (goes 48).
  Going over a map tells its elements (goes 52).
  register: the chapter's rows (known 32).
  What Put does to a list: order, members, length; what Get finds.
-/
import Derived.Test.YtkkpdgfllnbigaaGreatMg9
import Derived.Test.YtkkpdgfllnbigaaGreatMg13
import Derived.Test.YtkkpdgfllnbigaaGreatMg14
import Derived.Test.YtkkpdgfllnbigaaGreatMg11
import Derived.Deep.DeepCutAuto
import Derived.Deep.CutBlock
import Derived.Test.YtkkpdgfllnbigaaGreatMg10
namespace Go.Proofs.YtkkpdgfllnbigaaGreat
open Go.RowKit Go.Shelf
set_option linter.unusedSimpArgs false

theorem branch_parts {r : Int} {l : ByteArray} (h : branchV r l = true) : 0 ≤ r ∧ r < 8 ∧ labelB l.data.toList = true := by
  unfold branchV at h
  simp only [Bool.and_eq_true, decide_eq_true_eq] at h
  exact ⟨h.1.1, h.1.2, h.2⟩
theorem name_parts {r : Int} {l : ByteArray} {n : Int} (h : nameV r l n = true) : branchV r l = true ∧ 1 ≤ n ∧ n ≤ 4611686018427387904 := by
  unfold nameV cntV at h
  simp only [Bool.and_eq_true, decide_eq_true_eq] at h
  exact h
theorem app_list (a b : ByteArray) : (a ++ b).data.toList = a.data.toList ++ b.data.toList := by simp
theorem stamp_parts {g r : Int} {l : ByteArray} {n x : Int} (h : stampV g r l n x = true) : 1 ≤ g ∧ g ≤ 4611686018427387904 ∧ nameV r l n = true ∧ 0 ≤ x ∧ x < 64 := by
  unfold stampV cntV at h
  simp only [Bool.and_eq_true, decide_eq_true_eq] at h
  exact ⟨h.1.1.1, h.1.1.2, h.1.2, h.2.1, h.2.2⟩

/-- Bytes out of numbers. -/
def U (l : List Int) : List UInt8 := (strOfNums l).data.toList
theorem U_cons (a : Int) (l : List Int) : U (a :: l) = UInt8.ofNat a.toNat :: U l := by
  unfold U strOfNums
  simp
theorem U_nil : U [] = [] := by unfold U strOfNums; simp
theorem U_one (a : Int) : U [a] = [UInt8.ofNat a.toNat] := by rw [U_cons, U_nil]
theorem u8_lt {a b : Nat} (ha : a < 256) (hb : b < 256) : (UInt8.ofNat a < UInt8.ofNat b) ↔ a < b := by
  rw [UInt8.lt_iff_toNat_lt, UInt8.toNat_ofNat', UInt8.toNat_ofNat', Nat.mod_eq_of_lt ha, Nat.mod_eq_of_lt hb]
theorem cb_cons {a b : Nat} (ha : a < 256) (hb : b < 256) (s t : List UInt8) : Lib.compareBytes (UInt8.ofNat a :: s) (UInt8.ofNat b :: t) = if a < b then -1 else if b < a then 1 else Lib.compareBytes s t := by
  rw [Lib.compareBytes]
  simp only [u8_lt ha hb, u8_lt hb ha]
theorem low_mod (n : Nat) : ∀ k j, k ≤ j → low (n % 256 ^ j) k = low n k
  | 0, _, _ => rfl
  | k + 1, j, h => by
    rw [low, low, low_mod n k j (by omega)]
    congr 2
    obtain ⟨d, rfl⟩ : ∃ d, j = (k + 1) + d := ⟨j - (k + 1), by omega⟩
    rw [Nat.pow_add, Nat.pow_succ, Nat.mul_assoc, Nat.mod_mul_right_div_self]
    rw [Nat.mod_mul_right_mod]
theorem cb_low : ∀ (k n m : Nat) (s t : List UInt8), n < 256 ^ k → m < 256 ^ k → Lib.compareBytes (U (low n k) ++ s) (U (low m k) ++ t) = if n < m then -1 else if m < n then 1 else Lib.compareBytes s t
  | 0, n, m, s, t, hn, hm => by
    simp at hn hm
    subst hn hm
    rw [low, U_nil]
    simp
  | k + 1, n, m, s, t, hn, hm => by
    have hp : 0 < 256 ^ k := Nat.pow_pos (by omega)
    have hn' : n / 256 ^ k < 256 := by rw [Nat.div_lt_iff_lt_mul hp]; rw [Nat.pow_succ] at hn; omega
    have hm' : m / 256 ^ k < 256 := by rw [Nat.div_lt_iff_lt_mul hp]; rw [Nat.pow_succ] at hm; omega
    have dn := Nat.div_add_mod n (256 ^ k)
    have dm := Nat.div_add_mod m (256 ^ k)
    have mn := Nat.mod_lt n hp
    have mm := Nat.mod_lt m hp
    rw [low, low, U_cons, U_cons, List.cons_append, List.cons_append]
    rw [show ((n / 256 ^ k % 256 : Nat) : Int).toNat = n / 256 ^ k by rw [Int.toNat_natCast, Nat.mod_eq_of_lt hn'], show ((m / 256 ^ k % 256 : Nat) : Int).toNat = m / 256 ^ k by rw [Int.toNat_natCast, Nat.mod_eq_of_lt hm'], cb_cons hn' hm']
    rw [← low_mod n k k (Nat.le_refl _), ← low_mod m k k (Nat.le_refl _), cb_low k _ _ s t mn mm]
    generalize n / 256 ^ k = a at dn hn' ⊢
    generalize m / 256 ^ k = b at dm hm' ⊢
    generalize n % 256 ^ k = c at dn mn ⊢
    generalize m % 256 ^ k = d at dm mm ⊢
    generalize 256 ^ k = q at dn dm mn mm hp
    by_cases h1 : a < b
    · have : n < m := by
        have : q * (a + 1) ≤ q * b := Nat.mul_le_mul_left _ h1
        rw [Nat.mul_add] at this
        omega
      rw [if_pos h1, if_pos this]
    · by_cases h2 : b < a
      · have h3 : m < n := by
          have : q * (b + 1) ≤ q * a := Nat.mul_le_mul_left _ h2
          rw [Nat.mul_add] at this
          omega
        rw [if_neg h1, if_pos h2, if_neg (by omega), if_pos h3]
      · have e : a = b := by omega
        subst e
        rw [if_neg h1, if_neg h2]
        by_cases h3 : c < d
        · rw [if_pos h3, if_pos (by omega)]
        · rw [if_neg h3]
          by_cases h4 : d < c
          · rw [if_pos h4, if_neg (by omega), if_pos (by omega)]
          · rw [if_neg h4, if_neg (by omega), if_neg (by omega)]
theorem cb_label : ∀ (l m s t : List UInt8), l.all labelByte = true → m.all labelByte = true → Lib.compareBytes (l ++ 0 :: s) (m ++ 0 :: t) = if Lib.compareBytes l m = 0 then Lib.compareBytes s t else Lib.compareBytes l m
  | [], [], s, t, _, _ => by simp [Lib.compareBytes]
  | [], b :: m, s, t, _, hm => by
    have hb : labelByte b = true := by simp at hm; exact hm.1
    have h0 : (0 : UInt8) < b := by
      unfold labelByte at hb
      rw [UInt8.lt_iff_toNat_lt]
      simp at hb
      show 0 < b.toNat
      omega
    simp [Lib.compareBytes, h0]
  | a :: l, [], s, t, hl, _ => by
    have ha : labelByte a = true := by simp at hl; exact hl.1
    have h0 : (0 : UInt8) < a := by
      unfold labelByte at ha
      rw [UInt8.lt_iff_toNat_lt]
      simp at ha
      show 0 < a.toNat
      omega
    have h1 : ¬ a < 0 := by
      rw [UInt8.lt_iff_toNat_lt]
      show ¬ a.toNat < 0
      omega
    simp [Lib.compareBytes, h0, h1]
  | a :: l, b :: m, s, t, hl, hm => by
    have hl' : l.all labelByte = true := by simp at hl ⊢; exact hl.2
    have hm' : m.all labelByte = true := by simp at hm ⊢; exact hm.2
    rw [List.cons_append, List.cons_append, Lib.compareBytes, Lib.compareBytes, cb_label l m s t hl' hm']
    by_cases h1 : a < b
    · simp [h1]
    · by_cases h2 : b < a
      · simp [h1, h2]
      · simp [h1, h2]
theorem keyS_list (g r : Int) (l : ByteArray) (n x : Int) : (keyS g r l n x).data.toList = U (low g.toNat 8) ++ (U [r] ++ (l.data.toList ++ 0 :: (U (low n.toNat 8) ++ U [x]))) := by
  unfold keyS U
  simp only [app_list]
  show _ ++ [0] ++ _ ++ _ = _
  simp
/-- Keys are ordered as stamps are. -/
theorem key_order {g r n x g' r' n' x' : Int} {l l' : ByteArray} (h : stampV g r l n x = true) (h' : stampV g' r' l' n' x' = true) : Lib.compareBytes (keyS g r l n x).data.toList (keyS g' r' l' n' x').data.toList = cmpS g r l n x g' r' l' n' x' := by
  obtain ⟨g0, g1, hn, x0, x1⟩ := stamp_parts h
  obtain ⟨hb, n0, n1⟩ := name_parts hn
  obtain ⟨r0, r1, hl⟩ := branch_parts hb
  obtain ⟨g0', g1', hn', x0', x1'⟩ := stamp_parts h'
  obtain ⟨hb', n0', n1'⟩ := name_parts hn'
  obtain ⟨r0', r1', hl'⟩ := branch_parts hb'
  have ha : l.data.toList.all labelByte = true := by unfold labelB at hl; simp only [Bool.and_eq_true] at hl; exact hl.2
  have ha' : l'.data.toList.all labelByte = true := by unfold labelB at hl'; simp only [Bool.and_eq_true] at hl'; exact hl'.2
  rw [keyS_list, keyS_list, cb_low 8 _ _ _ _ (by simp; omega) (by simp; omega)]
  simp only [U_one, List.cons_append, List.nil_append]
  rw [cb_cons (by omega) (by omega), cb_label _ _ _ _ ha ha', cb_low 8 _ _ _ _ (by simp; omega) (by simp; omega), cb_cons (by omega) (by omega)]
  rw [cmpS_eq]
  unfold cmpT Go.Proofs.YtkkpdgfllnbigaaGreat.lex
  simp only [Lib.compareBytes]
  have cI : ∀ a b t : Int, 0 ≤ a → 0 ≤ b → (if a.toNat < b.toNat then (-1 : Int) else if b.toNat < a.toNat then 1 else t) = if cmpI a b = 0 then t else cmpI a b := fun a b t h1 h2 => by
    rw [← pair_step]
    by_cases q1 : a < b
    · rw [if_pos q1, if_pos (by omega)]
    · rw [if_neg q1, if_neg (by omega)]
      by_cases q2 : b < a
      · rw [if_pos q2, if_pos (by omega)]
      · rw [if_neg q2, if_neg (by omega)]
  rw [cI g g' _ (by omega) (by omega), cI r r' _ (by omega) (by omega), cI n n' _ (by omega) (by omega), cI x x' _ (by omega) (by omega)]
  congr 1
  congr 1
  show (if cmpB l l' = 0 then _ else cmpB l l') = _
  congr 1
  congr 1
  by_cases q : cmpI x x' = 0
  · rw [if_pos q, q]
  · rw [if_neg q]
end Go.Proofs.YtkkpdgfllnbigaaGreat
namespace Go.Proofs.YtkkpdgfllnbigaaGreat
open Go.RowKit Go.Shelf
set_option linter.unusedSimpArgs false
attribute [local go_sem] Oper.semAt_some

/-- Two operations that turn the world come up together in a region that draws its order. -/
theorem turn2_op {P : Program} {md : Region.Mode} {ops : Array Oper} {Q : Exit → Act → World → Prop} {S : World → Prop} {i j : Nat} {oi oj : Oper} {di dj : Tmp} {OPi OPj : Op} {Ti Tj : TypeId} {v u : Value} {fuel : Nat} {listed : Array Bool} {a : Act} {w wi wj : World}
    (hi : ops[i]? = some oi) (hdi : oi.dst = some di) (hoi : oi.op = OPi) (hti : oi.type = Ti) (hj : ops[j]? = some oj) (hdj : oj.dst = some dj) (hoj : oj.op = OPj) (htj : oj.type = Tj)
    (hr : Region.ready md ops listed = [i, j]) (hwi : Region.wanted oi (yielded ops a.tmps) = true) (hwj : Region.wanted oj (yielded ops a.tmps) = true)
    (hyi : (execOp a.eval { dst := none, op := OPi, type := Ti, pos := "", after := #[], guard := none }).run P w = .ok (.value v) wi)
    (hyj : (execOp a.eval { dst := none, op := OPj, type := Tj, pos := "", after := #[], guard := none }).run P w = .ok (.value u) wj)
    (hSi : S wi) (hSj : S wj)
    (h1 : wpAnyH P md ops Q S fuel (listed.setIfInBounds i true) (a.put (some di) v) wi) (h2 : wpAnyH P md ops Q S fuel (listed.setIfInBounds j true) (a.put (some dj) u) wj) : wpAnyH P md ops Q S (fuel + 1) listed a w := by
  refine wpAnyH_ready hr (by simp) (AllReadyH.cons hi (fun K hK => ?_) (AllReadyH.cons hj (fun K hK => ?_) AllReadyH.nil))
  · rw [if_pos hwi]
    unfold Oper.wp
    rw [exec_same a.eval oi hoi hti, hyi]
    show K (a.put oi.dst v) wi
    rw [hdi]
    exact hK.out _ _ hSi (fun _ => h1)
  · rw [if_pos hwj]
    unfold Oper.wp
    rw [exec_same a.eval oj hoj htj, hyj]
    show K (a.put oj.dst u) wj
    rw [hdj]
    exact hK.out _ _ hSj (fun _ => h2)
/-- One is laid behind; where the row then lies. -/
theorem push_OtW {w : World} {B b : Nat} {v : Value} {p : List ByteArray} {y : ByteArray} (hown : Ot w B v p) (hcell : w.heap[b]? = some (.cells #[.string y] 9 (0, 0))) (hp : p.length + 1 ≤ 1000000) (hB : B ≤ w.heap.size) :
    ∃ a' c' w', (Builtin.append_ #[63, 63] 63 #[v, .slice (some ⟨b, 0, none⟩) 1 1]).run Tryz.prog w = .ok (.slice a' (p.length + 1) c') w' ∧ Ot w' B (.slice a' (p.length + 1) c') (p ++ [y]) ∧ Only (fun k => v.ownBlock = some k) w w' ∧ Where w v (.slice a' (p.length + 1) c') := by
  obtain ⟨i0, hi, hz0, hz1, hz2⟩ := info_of info9t
  obtain ⟨v', w', hr, h2, h3, h4⟩ := append_where (P := Tryz.prog) w 63 63 9 i0 (.string ⟨#[]⟩) 1 16 Tryz.underlying63 hi hz0 hz1 hz2 rfl (by decide) v p.length (p.map Value.string) (hown.lift (Nat.zero_le _)) ⟨b, 0, none⟩ 1 1 [.string y] (by simp) (fun j u hj => by rw [add_lit, cell_of_row _ _ (0 + j) #[.string y] 9 (0, 0) hcell, Nat.zero_add]; simpa using hj) (fun u hu => strs_one (l := [y]) u (by simpa using hu)) (by unfold maxLen; omega) (by omega)
  have hO : Ot w' 0 v' (p ++ [y]) := by
    unfold Ot
    rw [List.map_append, List.length_append]
    exact h2
  obtain ⟨a', c', hv, _, _⟩ := row_form hO
  subst hv
  rw [List.length_append] at hO hr h4
  refine ⟨a', c', w', hr, ?_, Only.ofGrown h3, h4⟩
  rcases hO with ⟨q1, q2⟩
  refine ⟨q1, ?_⟩
  rcases q2 with q2 | ⟨g, cap, cur, e, hb, r⟩
  · exact .inl q2
  · refine .inr ⟨g, cap, cur, e, ?_, r⟩
    rcases h4 g (by rw [show (Value.slice a' (p.length + [y].length) c') = _ from e]; rfl) with h | h
    · exact (World.ownsRow.lt hown g h).1
    · omega
def okEl (x : El) : Bool := stV x.1 && txtB x.2
def kvE (x : El) : Kv := (keyT x.1, x.2)
/-- What stands between turns. -/
structure OI (w0 : World) (B : Nat) (ks ts : List ByteArray) (kv tv : Value) (W : World) : Prop where
  low : Below B w0 W
  k : Ot W B kv ks
  t : Ot W B tv ts
  ne : ∀ j, kv.ownBlock = some j → tv.ownBlock ≠ some j
theorem OI.alloc {w0 : World} {B : Nat} {ks ts : List ByteArray} {kv tv : Value} {W : World} (h : OI w0 B ks ts kv tv W) (hB : B ≤ W.heap.size) (o : Obj) : OI w0 B ks ts kv tv (W.alloc o) := by
  have hb : Below W.heap.size W (W.alloc o) := (Below.refl _ W).alloc (Nat.le_refl _) _
  exact ⟨h.low.trans (hb.mono hB), h.k.below hb, h.t.below hb, h.ne⟩
theorem OI.below {w0 : World} {B : Nat} {ks ts : List ByteArray} {kv tv : Value} {W W' : World} (h : OI w0 B ks ts kv tv W) (hB : B ≤ W.heap.size) (hb : Below W.heap.size W W') : OI w0 B ks ts kv tv W' := ⟨h.low.trans (hb.mono hB), h.k.below hb, h.t.below hb, h.ne⟩
theorem OI.pushK {w0 : World} {B b : Nat} {ks ts : List ByteArray} {kv tv : Value} {W : World} {y : ByteArray} (h : OI w0 B ks ts kv tv W) (hB : B ≤ W.heap.size) (hp : ks.length ≤ 100000) (hc : W.heap[b]? = some (.cells #[.string y] 9 (0, 0))) :
    ∃ a' c' w', (Builtin.append_ #[63, 63] 63 #[kv, .slice (some ⟨b, 0, none⟩) 1 1]).run Tryz.prog W = .ok (.slice a' (ks.length + 1) c') w' ∧ OI w0 B (ks ++ [y]) ts (.slice a' (ks.length + 1) c') tv w' ∧ Only (fun k => kv.ownBlock = some k) W w' := by
  obtain ⟨a', c', w', hr, hO, ho, hw⟩ := push_OtW h.k hc (by omega) hB
  refine ⟨a', c', w', hr, ⟨Below.only h.low ho hB (fun j e => (World.ownsRow.lt h.k j e).1), hO, h.t.only ho (fun k hk e => h.ne k e hk), fun j hj e => ?_⟩, ho⟩
  rcases hw j hj with h1 | h1
  · exact h.ne j h1 e
  · have := (World.ownsRow.lt h.t j e).2; omega
theorem OI.pushT {w0 : World} {B b : Nat} {ks ts : List ByteArray} {kv tv : Value} {W : World} {y : ByteArray} (h : OI w0 B ks ts kv tv W) (hB : B ≤ W.heap.size) (hp : ts.length ≤ 100000) (hc : W.heap[b]? = some (.cells #[.string y] 9 (0, 0))) :
    ∃ a' c' w', (Builtin.append_ #[63, 63] 63 #[tv, .slice (some ⟨b, 0, none⟩) 1 1]).run Tryz.prog W = .ok (.slice a' (ts.length + 1) c') w' ∧ OI w0 B ks (ts ++ [y]) kv (.slice a' (ts.length + 1) c') w' ∧ Only (fun k => tv.ownBlock = some k) W w' := by
  obtain ⟨a', c', w', hr, hO, ho, hw⟩ := push_OtW h.t hc (by omega) hB
  refine ⟨a', c', w', hr, ⟨Below.only h.low ho hB (fun j e => (World.ownsRow.lt h.t j e).1), h.k.only ho (fun k hk e => h.ne k hk e), hO, fun j hj e => ?_⟩, ho⟩
  rcases hw j e with h1 | h1
  · exact h.ne j hj h1
  · have := (World.ownsRow.lt h.k j hj).2; omega
theorem OI.notK {w0 : World} {B j : Nat} {ks ts : List ByteArray} {kv tv : Value} {W : World} (h : OI w0 B ks ts kv tv W) (hj : W.heap.size ≤ j) : ¬ (kv.ownBlock = some j) := fun e => by have := (World.ownsRow.lt h.k j e).2; omega
theorem OI.notT {w0 : World} {B j : Nat} {ks ts : List ByteArray} {kv tv : Value} {W : World} (h : OI w0 B ks ts kv tv W) (hj : W.heap.size ≤ j) : ¬ (tv.ownBlock = some j) := fun e => by have := (World.ownsRow.lt h.t j e).2; omega
theorem Ot.cs {w : World} {B : Nat} {v : Value} {L : List ByteArray} (h : Ot w B v L) : Pm.Cs w v (L.map Value.string) := by
  rcases h with ⟨h1, h2⟩
  rcases h2 with ⟨e, e2⟩ | ⟨g, cap, cur, e, hb, hg, hnc, hcm, hcs, htake⟩
  · have : L = [] := List.eq_nil_of_length_eq_zero e2
    subst this
    exact ⟨none, 0, e, Nat.le_refl _, fun j u hj => by simp at hj⟩
  · refine ⟨some ⟨g, 0, none⟩, cap, by rw [e, List.length_map], by rw [List.length_map]; exact hnc, fun j u hj => ⟨g, 0, rfl, ?_⟩⟩
    rw [Nat.zero_add, cell_of_row _ _ j _ 9 (0, 0) hg]
    have hj' : j < (L.map Value.string).length := (List.getElem?_eq_some_iff.1 hj).1
    rw [← htake, List.getElem?_take] at hj
    split at hj
    · simpa using hj
    · cases hj
def goodL (l : List El) : Bool := l.all okEl && decide ((l.map fun x => keyT x.1).Nodup)
theorem keyT_size {s : St} (h : stV s = true) : (keyT s).size ≤ 100 := by
  have := S_bounds h
  unfold keyT keyS
  simp only [ByteArray.size_append, strOfNums_size, low_length, List.length_singleton]
  have h0 : (ByteArray.mk #[0]).size = 1 := rfl
  omega
theorem ent_list (l : List El) : (List.range l.length).map (Pm.ent (l.map fun x => keyT x.1) (l.map Prod.snd)) = l.map kvE := by
  apply List.ext_getElem?
  intro j
  rw [List.getElem?_map, List.getElem?_map]
  by_cases hj : j < l.length
  · rw [List.getElem?_range hj]
    obtain ⟨x, hx⟩ : ∃ x, l[j]? = some x := ⟨_, List.getElem?_eq_getElem hj⟩
    simp [Pm.ent, hx, kvE]
  · rw [List.getElem?_eq_none (by simpa using hj), List.getElem?_eq_none (by simpa using hj)]; rfl
theorem of_good {w : World} {l : List El} {u4 u5 : Value} {ks ts : List ByteArray} (hks : ks = l.map fun x => keyT x.1) (hts : ts = l.map Prod.snd) (hall : l.all okEl = true) (hl : l.length ≤ 400) (hk : Pm.Cs w u4 (ks.map .string)) (ht : Pm.Cs w u5 (ts.map .string)) :
    Calls Tryz.prog 110 #[u4, u5] w (fun e w' => ∃ (t : Pm.T) (ec : Int) (pt : Option Addr), t.ptr = .pointer pt ∧ e = .returned (.tuple #[.agg #[.pointer pt], .int .i64 ec]) ∧ Below w.heap.size w w' ∧ ec = (if goodL l = true then 0 else 2) ∧ Mg w' t ∧ (goodL l = true → t.list.Perm (l.map kvE)) ∧ (goodL l = false → t = .nil) ∧ t.over w.heap.size) := by
  have hgl : goodL l = decide (ks.Nodup) := by rw [goodL, hall, Bool.true_and, hks]
  have hof := Pm.of_any ks ts u4 u5 w hk ht (by rw [hks, List.length_map]; omega)
  refine hof.mono ?_
  rintro e w' ⟨hb, hh⟩
  rcases hh with ⟨rfl, hbad⟩ | ⟨t, p, rfl, -, hp, htl', hsr, hbl, hin, hov⟩
  · have hg : goodL l = false := by
      rw [hgl, decide_eq_false_iff_not]
      rcases hbad with h1 | h1
      · rw [hks, hts, List.length_map, List.length_map] at h1; exact absurd rfl h1
      · exact h1
    refine ⟨.nil, 2, none, rfl, rfl, hb, by rw [if_neg (by rw [hg]; decide)], Mg.nil _, fun hc => ?_, fun _ => rfl, Pm.T.over_nil⟩
    rw [hg] at hc; cases hc
  · obtain ⟨pt, hpt⟩ := t.ptr_shape
    have hperm : t.list.Perm (l.map kvE) := by
      rw [hks, List.length_map] at hp
      rw [htl', ← ent_list l, hks, hts]
      exact hp.map _
    have hg : goodL l = true := by
      rw [hgl, decide_eq_true_eq]
      have hnd : (t.list.map Prod.fst).Nodup := by
        rw [List.nodup_iff_pairwise_ne, List.pairwise_map]
        exact List.Pairwise.imp (fun h e => by rw [e, Pm.ord_B.refl] at h; cases h) hsr
      have h2 := (hperm.map Prod.fst).nodup_iff.1 hnd
      rw [List.map_map] at h2
      rw [hks]
      exact h2
    refine ⟨t, 0, pt, hpt, by unfold Pm.mv; rw [hpt], hb, by rw [if_pos hg], ⟨hin, hsr, hbl, ?_, ?_⟩, fun _ => hperm, fun hc => ?_, hov⟩
    · rw [← Pm.T.n_eq, hperm.length_eq, List.length_map]; omega
    · intro y hy
      have hy' := hperm.mem_iff.1 hy
      obtain ⟨x, hx, rfl⟩ := List.mem_map.1 hy'
      rw [List.all_eq_true] at hall
      have ho := hall x hx
      simp only [okEl, Bool.and_eq_true] at ho
      have := keyT_size ho.1
      simp only [kvE]
      omega
    · rw [hg] at hc; cases hc
/-- What Of answers. -/
def OfE (w : World) (l : List El) (e : Ending) (w' : World) : Prop := ∃ t, e = .returned (.tuple #[Pm.mv t, .int .i64 (if goodL l = true then 0 else 2)]) ∧ Mg w' t ∧ Below w.heap.size w w' ∧ (goodL l = true → t.list.Perm (l.map kvE)) ∧ (goodL l = false → t = .nil) ∧ t.over w.heap.size
end Go.Proofs.YtkkpdgfllnbigaaGreat
namespace Go.Proofs.YtkkpdgfllnbigaaGreat
open Go.RowKit Go.Shelf
set_option linter.unusedSimpArgs false
attribute [local go_sem] Oper.semAt_some

set_option maxHeartbeats 4000000 in
set_option maxRecDepth 100000 in
theorem sameEls_any {w : World} {ao bo : Option Addr} {c d : Nat} {l m : List El} (h : Re w ao l) (k : Re w bo m) (hl : l.length ≤ 1000000) (hm : m.length ≤ 1000000) : Calls Tryz.prog 39 #[.slice ao l.length c, .slice bo m.length d] w fun e w' => e = .returned (.bool (decide (l = m))) ∧ ∃ n, w' = w.drewN n := by
  obtain ⟨N, hN⟩ : ∃ N, N = l.length := ⟨_, rfl⟩
  obtain ⟨M, hM⟩ : ∃ N, N = m.length := ⟨_, rfl⟩
  obtain ⟨R, hR⟩ : ∃ R, R = decide (l = m) := ⟨_, rfl⟩
  rw [← hR]
  rw [← hN] at hl ⊢
  rw [← hM] at hm ⊢
  have H := hide (And.intro hN (And.intro hM (And.intro h k)))
  have HR := hide hR
  clear hN hM hR h k
  by_cases hNM : N = M
  · subst hNM
    go_enter Tryz.func39, Tryz.ntmps39
    go_wp2
    go_loopw [5] (fun iv wr => ∃ i : Nat, i ≤ N ∧ iv = .int .i64 i ∧ Hid (l.take i = m.take i) ∧ ∃ n, wr = w.drewN n) (fun iv _ => N - (intOf iv).toNat)
    case atStart => exact ⟨0, by omega, rfl, hide (by simp), 0, rfl⟩
    case round =>
      obtain ⟨i, hi, rfl, hrest, n, hwr⟩ := hrel
      have hlr : Re wr ao l := by rw [hwr]; exact ⟨H.out.2.2.1.1, H.out.2.2.1.2⟩
      have hmr : Re wr bo m := by rw [hwr]; exact ⟨H.out.2.2.2.1, H.out.2.2.2.2⟩
      have HWR := hide hwr
      clear hwr
      by_cases h1 : i < N
      · have z1 : (i : Int) < (N : Int) := by omega
        have d1 : decide (i < N) = true := by simpa using h1
        obtain ⟨x, hx⟩ : ∃ x, l[i]? = some x := ⟨_, List.getElem?_eq_getElem (by rw [← H.out.1]; exact h1)⟩
        obtain ⟨y, hy⟩ : ∃ y, m[i]? = some y := ⟨_, List.getElem?_eq_getElem (by rw [← H.out.2.1]; exact h1)⟩
        obtain ⟨ab, off, rfl, q0, q1, q2, q3, q4, q5⟩ := hlr.cells hx
        obtain ⟨bb, ob, rfl, p0, p1, p2, p3, p4, p5⟩ := hmr.cells hy
        have hne := fun W => run_ne77 x y W
        have HX := hide (And.intro hx hy)
        clear hx hy hlr hmr
        by_cases hxy : x = y
        · have HXY := hide hxy
          have d2 : decide (x = y) = true := by simpa using hxy
          rw [d2] at hne
          clear hxy d2
          obtain ⟨⟨g, r, l0, n0, i0⟩, t0⟩ := x
          obtain ⟨⟨g', r', l0', n0', i0'⟩, t0'⟩ := y
          dsimp only at q0 q1 q2 q3 q4 q5 p0 p1 p2 p3 p4 p5
          go_wp2
          go_quiet (fail)
          go_wp2
          go_roundw
          case rel => exact ⟨i + 1, by omega, by go_num, hide (by rw [List.take_add_one, List.take_add_one, HX.out.1, HX.out.2, hrest.out, HXY.out]), _, by rw [HWR.out, World.drewN_drewN]⟩
          case measure => simp [intOf]; omega
        · have hd : R = false := by
            rw [HR.out]
            simp only [decide_eq_false_iff_not]
            intro e
            have := HX.out.1.symm.trans ((congrArg (·[i]?) e).trans HX.out.2)
            exact hxy (by simpa using this)
          have d2 : decide (x = y) = false := by simpa using hxy
          rw [d2] at hne
          have HD := hide hd
          clear hd hxy d2
          obtain ⟨⟨g, r, l0, n0, i0⟩, t0⟩ := x
          obtain ⟨⟨g', r', l0', n0', i0'⟩, t0'⟩ := y
          dsimp only at q0 q1 q2 q3 q4 q5 p0 p1 p2 p3 p4 p5
          go_wp2
          go_quiet (fail)
          go_wp2
          go_ret
          exact ⟨by rw [HD.out]; rfl, _, by rw [HWR.out, World.drewN_drewN]⟩
      · obtain rfl : i = N := by omega
        have d1 : decide (i < i) = false := by simp
        go_wp2
        go_ret
        have : l = m := by
          have := hrest.out
          rwa [show l.take i = l by rw [H.out.1]; exact List.take_length, show m.take i = m by rw [H.out.2.1]; exact List.take_length] at this
        exact ⟨by rw [HR.out, decide_eq_true this]; rfl, n, HWR.out⟩
  · have e1 : ((N : Int) == (M : Int)) = false := by rw [beq_eq_false_iff_ne]; omega
    have hd : R = false := by
      rw [HR.out]
      simp only [decide_eq_false_iff_not]
      intro e
      exact hNM (by rw [H.out.1, H.out.2.1, e])
    subst hd
    go_enter Tryz.func39, Tryz.ntmps39
    go_wp2
    go_ret
    exact ⟨rfl, 0, rfl⟩

set_option maxHeartbeats 4000000 in
set_option maxRecDepth 100000 in
theorem sameTexts_any {w : World} {ao bo : Option Addr} {c d : Nat} {l m : List ByteArray} (h : Rs w ao l) (k : Rs w bo m) (hl : l.length ≤ 1000000) (hm : m.length ≤ 1000000) : Calls Tryz.prog 108 #[.slice ao l.length c, .slice bo m.length d] w fun e w' => e = .returned (.bool (decide (l = m))) ∧ ∃ n, w' = w.drewN n := by
  obtain ⟨N, hN⟩ : ∃ N, N = l.length := ⟨_, rfl⟩
  obtain ⟨M, hM⟩ : ∃ N, N = m.length := ⟨_, rfl⟩
  obtain ⟨R, hR⟩ : ∃ R, R = decide (l = m) := ⟨_, rfl⟩
  rw [← hR]
  rw [← hN] at hl ⊢
  rw [← hM] at hm ⊢
  have H := hide (And.intro hN (And.intro hM (And.intro h k)))
  have HR := hide hR
  clear hN hM hR h k
  by_cases hNM : N = M
  · subst hNM
    go_enter Tryz.func108, Tryz.ntmps108
    go_wp2
    go_loopw [5] (fun iv wr => ∃ i : Nat, i ≤ N ∧ iv = .int .i64 i ∧ Hid (l.take i = m.take i) ∧ ∃ n, wr = w.drewN n) (fun iv _ => N - (intOf iv).toNat)
    case atStart => exact ⟨0, by omega, rfl, hide (by simp), 0, rfl⟩
    case round =>
      obtain ⟨i, hi, rfl, hrest, n, hwr⟩ := hrel
      have hlr : Rs wr ao l := by rw [hwr]; exact ⟨H.out.2.2.1.1, H.out.2.2.1.2⟩
      have hmr : Rs wr bo m := by rw [hwr]; exact ⟨H.out.2.2.2.1, H.out.2.2.2.2⟩
      have HWR := hide hwr
      clear hwr
      by_cases h1 : i < N
      · have z1 : (i : Int) < (N : Int) := by omega
        have d1 : decide (i < N) = true := by simpa using h1
        obtain ⟨x, hx⟩ : ∃ x, l[i]? = some x := ⟨_, List.getElem?_eq_getElem (by rw [← H.out.1]; exact h1)⟩
        obtain ⟨y, hy⟩ : ∃ y, m[i]? = some y := ⟨_, List.getElem?_eq_getElem (by rw [← H.out.2.1]; exact h1)⟩
        obtain ⟨ab, off, rfl, q0⟩ := hlr.at hx
        obtain ⟨bb, ob, rfl, p0⟩ := hmr.at hy
        have HX := hide (And.intro hx hy)
        clear hx hy hlr hmr
        by_cases hxy : x = y
        · have HXY := hide hxy
          have d2 : (x.toList == y.toList) = true := bytes_same.2 hxy
          clear hxy
          go_wp2
          go_quiet (fail)
          go_wp2
          go_roundw
          case rel => exact ⟨i + 1, by omega, by go_num, hide (by rw [List.take_add_one, List.take_add_one, HX.out.1, HX.out.2, hrest.out, HXY.out]), _, by rw [HWR.out, World.drewN_drewN]⟩
          case measure => simp [intOf]; omega
        · have hd : R = false := by
            rw [HR.out]
            simp only [decide_eq_false_iff_not]
            intro e
            have := HX.out.1.symm.trans ((congrArg (·[i]?) e).trans HX.out.2)
            exact hxy (by simpa using this)
          have d2 : (x.toList == y.toList) = false := by rw [Bool.eq_false_iff, Ne, bytes_same]; exact hxy
          have HD := hide hd
          clear hd hxy
          go_wp2
          go_quiet (fail)
          go_wp2
          go_ret
          exact ⟨by rw [HD.out]; rfl, _, by rw [HWR.out, World.drewN_drewN]⟩
      · obtain rfl : i = N := by omega
        have d1 : decide (i < i) = false := by simp
        go_wp2
        go_ret
        have : l = m := by
          have := hrest.out
          rwa [show l.take i = l by rw [H.out.1]; exact List.take_length, show m.take i = m by rw [H.out.2.1]; exact List.take_length] at this
        exact ⟨by rw [HR.out, decide_eq_true this]; rfl, n, HWR.out⟩
  · have e1 : ((N : Int) == (M : Int)) = false := by rw [beq_eq_false_iff_ne]; omega
    have hd : R = false := by
      rw [HR.out]
      simp only [decide_eq_false_iff_not]
      intro e
      exact hNM (by rw [H.out.1, H.out.2.1, e])
    subst hd
    go_enter Tryz.func108, Tryz.ntmps108
    go_wp2
    go_ret
    exact ⟨rfl, 0, rfl⟩


/-- The laws' stamps. -/
def atS (g : Int) : St := (g, 0, ⟨#[97]⟩, 1, 0)
end Go.Proofs.YtkkpdgfllnbigaaGreat
namespace Go.Proofs.YtkkpdgfllnbigaaGreat
open Go.RowKit Go.Shelf
set_option linter.unusedSimpArgs false
attribute [local go_sem] Oper.semAt_some

theorem refText_any (s : ByteArray) (w : World) : Calls Tryz.prog 111 #[.string s] w fun e w' => e = .returned (.bool (txtB s)) ∧ w' = w := by
  unfold txtB
  by_cases h : s.size ≤ 256
  · have h1 : (s.size : Int) ≤ 256 := by omega
    have h2 : decide ((s.size : Int) ≤ 256) = true := by simpa using h1
    have h3 : decide (s.size ≤ 256) = true := by simpa using h
    rw [h3]
    go_enter Tryz.func111, Tryz.ntmps111
    go_wp2
    go_ret
    exact ⟨rfl, rfl⟩
  · have h1 : ¬ (s.size : Int) ≤ 256 := by omega
    have h2 : decide ((s.size : Int) ≤ 256) = false := by simpa using h1
    have h3 : decide (s.size ≤ 256) = false := by simpa using h
    rw [h3]
    go_enter Tryz.func111, Tryz.ntmps111
    go_wp2
    go_ret
    exact ⟨rfl, rfl⟩
abbrev tA : ByteArray := ⟨#[97]⟩
abbrev tB : ByteArray := ⟨#[98]⟩
abbrev tC : ByteArray := ⟨#[99]⟩
theorem good_ba : goodL [(atS 2, tB), (atS 1, tA)] = true := by decide +kernel
theorem wr_3 : okWr [kvE (atS 1, tA), kvE (atS 2, tB)] (atS 3) tC = true := by decide +kernel
theorem wr_2 : okWr [kvE (atS 1, tA), kvE (atS 2, tB)] (atS 2) tC = false := by decide +kernel
theorem cmp_21 : ¬ Pm.cmpB (kvE (atS 2, tB)).1 (kvE (atS 1, tA)).1 = -1 := by decide +kernel
theorem perm_two {α : Type} {l : List α} {a b : α} (h : l.Perm [a, b]) : l = [a, b] ∨ l = [b, a] := by
  have hl := h.length_eq
  match l, hl with
  | [x, y], _ =>
    have hx : x ∈ [a, b] := h.mem_iff.1 (by simp)
    simp only [List.mem_cons, List.not_mem_nil, or_false] at hx
    rcases hx with rfl | rfl
    · have := (List.perm_cons x).1 h
      rw [List.perm_singleton] at this
      left; rw [this]
    · have h2 := h.trans (List.Perm.swap x a [])
      have := (List.perm_cons x).1 h2
      rw [List.perm_singleton] at this
      right; rw [this]
theorem list_ab {t : Pm.T} (h : t.list.Perm ([(atS 2, tB), (atS 1, tA)].map kvE)) (hs : Pm.Srt t.list) : t.list = [kvE (atS 1, tA), kvE (atS 2, tB)] := by
  rcases perm_two h with e | e
  · rw [e] at hs
    have : Pm.cmpB (kvE (atS 2, tB)).1 (kvE (atS 1, tA)).1 = -1 := (List.pairwise_cons.1 hs).1 _ (by simp)
    exact absurd this cmp_21
  · exact e
end Go.Proofs.YtkkpdgfllnbigaaGreat
namespace Go.Proofs.YtkkpdgfllnbigaaGreat
open Go.RowKit Go.Shelf
set_option linter.unusedSimpArgs false
attribute [local go_sem] Oper.semAt_some

theorem exec_st27 {ev' : Operand → Value} {x y : Operand} {T : TypeId} {w : World} {B : Nat} {u : Value} {pt : Option Addr} (hx : ev' x = .pointer (some ⟨B, 0, none⟩)) (hy : ev' y = .agg #[.pointer pt]) (h : w.cell? ⟨B, 0, none⟩ = some u) (hf : w.frozen? ⟨B, 0, none⟩ = false) : (execOp ev' { dst := none, op := .store 27 x y, type := T, pos := "", after := #[], guard := none }).run Tryz.prog w = .ok .skip (w.setCell ⟨B, 0, none⟩ (.pointer pt)) := by
  unfold execOp
  simp only [hx, hy]
  go_simp
theorem exec_al27 {ev' : Operand → Value} {T : TypeId} (w : World) : (execOp ev' { dst := none, op := .alloc 27, type := T, pos := "", after := #[], guard := none }).run Tryz.prog w = .ok (.value (.pointer (some ⟨w.heap.size, 0, none⟩))) (w.alloc (.cells #[.pointer none] 27)) := by
  unfold execOp
  go_simp
/-- A map in a box. -/
def Boxd (w : World) (B : Nat) (pt : Option Addr) (t : Pm.T) : Prop := w.heap[B]? = some (.cells #[.pointer pt] 27 (0, 0)) ∧ t.ptr = .pointer pt ∧ Mg w t
theorem Boxd.below {w w' : World} {B : Nat} {pt : Option Addr} {t : Pm.T} (h : Boxd w B pt t) (hb : Below w.heap.size w w') : Boxd w' B pt t := ⟨(hb.block _ (gI h.1).1).trans h.1, h.2.1, h.2.2.below hb⟩
theorem Boxd.cell {w : World} {B : Nat} {pt : Option Addr} {t : Pm.T} (h : Boxd w B pt t) : w.cell? ⟨B, 0, none⟩ = some (.pointer pt) := (cell_of_row _ _ 0 _ 27 (0, 0) h.1).trans rfl
theorem Mg.aside {w w' : World} {B : Nat} {x : Value} {t : Pm.T} (h : Mg w t) (hw : w.heap[B]? = some (.cells #[x] 27 (0, 0))) (ho : Only (fun j => j = B) w w') : Mg w' t := ⟨Pm.In.aside hw ho h.inn, h.srt, h.bal, h.few, h.key⟩
theorem Ot.rs {w : World} {B n c : Nat} {ao : Option Addr} {L : List ByteArray} (h : Ot w B (.slice ao n c) L) : Rs w ao L := by
  rcases h with ⟨h1, h2⟩
  rcases h2 with ⟨e, e2⟩ | ⟨g, cap, cur, e, hb, hg, hnc, hcm, hcs, htake⟩
  · have : L = [] := List.eq_nil_of_length_eq_zero e2
    subst this
    exact Rs.nil _ _
  · injection e with e1 e2 e3
    subst e1
    refine ⟨fun h => (by cases h), fun a ha j s hj => ?_⟩
    cases ha
    rw [add_lit, cell_of_row _ _ (0 + j) _ 9 (0, 0) hg, Nat.zero_add]
    have hj' : (L.map Value.string)[j]? = some (.string s) := by rw [List.getElem?_map, hj]; rfl
    rw [← htake, List.getElem?_take] at hj'
    split at hj'
    · simpa using hj'
    · cases hj'
theorem two_re {W : World} {b : Nat} {x y : El} (h : W.heap[b]? = some (.cells (flatE [x, y]).toArray 53 (0, 0))) : Re W (some ⟨b, 0, none⟩) [x, y] := Re.ofRe0 (fun j v hj => by
  rw [cell_of_row _ _ (0 + j) (flatE [x, y]).toArray 53 (0, 0) h, Nat.zero_add]
  simpa using hj)
end Go.Proofs.YtkkpdgfllnbigaaGreat
namespace Go.Proofs.YtkkpdgfllnbigaaGreat
open Go.RowKit Go.Shelf
set_option linter.unusedSimpArgs false

theorem wpList_app2 {P : Program} {w w' : World} {ops : Array Oper} {rest : List Oper} {o : Oper} {a : Act} {Q : Exit → Act → World → Prop} (hgd : o.guard = none) (s x : Operand) (t u T : TypeId)
    (ho : o.op = .call { callee := .builtin .append, args := #[s, x], argTypes := #[t, u] }) (hT : o.type = T) {v y v' : Value} (hs : a.eval s = v) (hx : a.eval x = y) (hr : (Builtin.append_ #[t, u] T #[v, y]).run P w = .ok v' w')
    (h : wpList P ops Q rest (a.put o.dst v') w') : wpList P ops Q (o :: rest) a w :=
  wpList_plain hgd fun K hK => by
    unfold Oper.wp
    rw [exec_same a.eval o ho hT]
    simp only [execOp, resolve, invoke, builtin, Sem.run_bind, Sem.run_pure, Result.andThen_ok, List.map_toArray, List.map_cons, List.map_nil, hs, hx, hr]
    exact hK _ _ h
end Go.Proofs.YtkkpdgfllnbigaaGreat
namespace Go.Proofs.YtkkpdgfllnbigaaGreat
open Go.RowKit Go.Shelf
set_option linter.unusedSimpArgs false

theorem ba_ext {a b : ByteArray} (h : a.data.toList = b.data.toList) : a = b := by
  apply ByteArray.ext; exact Array.toList_inj.1 h
theorem ext_mid (s : ByteArray) (a i : Nat) : s.extract a i = ⟨((s.data.toList.drop a).take (i - a)).toArray⟩ := by
  apply ByteArray.ext
  apply Array.toList_inj.1
  simp [ByteArray.data_extract, List.drop_take]
end Go.Proofs.YtkkpdgfllnbigaaGreat
namespace Go.Proofs.YtkkpdgfllnbigaaGreat
open Go.RowKit Go.Shelf
set_option linter.unusedSimpArgs false
attribute [local go_sem] Oper.semAt_some

end Go.Proofs.YtkkpdgfllnbigaaGreat
namespace Go.Proofs.YtkkpdgfllnbigaaGreat
open Go.RowKit Go.Shelf
set_option linter.unusedSimpArgs false
attribute [local go_sem] Oper.semAt_some

theorem fn_nil86 (f : Fn) (x y : Array Value) (w : World) : (binOp .eql 86 (.func f x y) .nilFunc).run Tryz.prog w = .ok (.bool false) w := by kernel_rfl
end Go.Proofs.YtkkpdgfllnbigaaGreat
namespace Go.Proofs.YtkkpdgfllnbigaaGreat
open Go.RowKit Go.Shelf
set_option linter.unusedSimpArgs false
attribute [local go_sem] Oper.semAt_some

theorem run_ne43 (s t : St) (w : World) : (binOp .neq 43 (svT s) (svT t)).run Tryz.prog w = .ok (.bool (!decide (s = t))) w := by
  obtain ⟨g, r, l, n, i⟩ := s
  obtain ⟨g', r', l', n', i'⟩ := t
  have h := sameE_dec ((g, r, l, n, i), ⟨#[]⟩) ((g', r', l', n', i'), ⟨#[]⟩)
  show (binOp .neq 43 (sv g r l n i) (sv g' r' l' n' i')).run Tryz.prog w = _
  rw [run_neq_struct, show (10000 : Nat) = 9996 + 4 from rfl, equalIn52]
  simp only [sameE] at h
  have e : decide (((g, r, l, n, i) : St) = (g', r', l', n', i')) = decide ((((g, r, l, n, i), (⟨#[]⟩ : ByteArray)) : El) = ((g', r', l', n', i'), ⟨#[]⟩)) := by
    rw [decide_eq_decide]
    simp
  rw [e, ← h]
  simp
/-- What stands between rounds. -/
def GoI (w0 : World) (Nb k : Nat) (W : World) : Prop := Only (fun j => j = Nb ∨ w0.heap.size ≤ j) w0 W ∧ W.heap[Nb]? = some (.cells #[.int .i64 (k : Nat)] 3 (0, 0))
end Go.Proofs.YtkkpdgfllnbigaaGreat
namespace Go.Proofs.YtkkpdgfllnbigaaGreat
open Go.RowKit Go.Shelf
set_option linter.unusedSimpArgs false
attribute [local go_sem] Oper.semAt_some

theorem fld53 (a b c d e f : Value) (w : World) : (Instr.field 53 (.agg #[a, b, c, d, e, f]) 0).run Tryz.prog w = .ok (.agg #[a, b, c, d, e]) w := by
  kernel_rfl
theorem exec_fld53 {ev' : Operand → Value} {x : Operand} {T : TypeId} {w : World} {a b c d e f : Value} (hx : ev' x = .agg #[a, b, c, d, e, f]) : (execOp ev' { dst := none, op := .field 53 x 0, type := T, pos := "", after := #[], guard := none }).run Tryz.prog w = .ok (.value (.agg #[a, b, c, d, e])) w := by
  simp [execOp, hx, fld53, Result.andThen]
def abL : List Kv := [kvE (atS 1, tA), kvE (atS 2, tB)]
end Go.Proofs.YtkkpdgfllnbigaaGreat
namespace Go.Proofs.YtkkpdgfllnbigaaGreat.Pm
open Go.RowKit Go.Shelf
set_option linter.unusedSimpArgs false

theorem ins_lessP {x : (ByteArray × ByteArray)} {k : ByteArray} {v : ByteArray} {l : List (ByteArray × ByteArray)} (h : cmpB x.1 k = -1) : ins k v (x :: l) = x :: ins k v l := by
  have hp : pos k (x :: l) = pos k l + 1 := by simp [pos, h]
  have hh : has k (x :: l) = has k l := by unfold has; rw [hp]; simp
  unfold ins
  rw [hp, hh]
  split <;> simp
theorem ins_memP {k : ByteArray} {v : ByteArray} {l : List (ByteArray × ByteArray)} {y : (ByteArray × ByteArray)} (h : y ∈ ins k v l) : y = (k, v) ∨ y ∈ l := by
  unfold ins at h
  rcases List.mem_append.1 h with h | h
  · exact .inr (List.mem_of_mem_take h)
  · rcases List.mem_cons.1 h with h | h
    · exact .inl h
    · exact .inr (List.mem_of_mem_drop h)
theorem srt_insP {l : List (ByteArray × ByteArray)} (h : Srt l) (k : ByteArray) (v : ByteArray) : Srt (ins k v l) := by
  induction l with
  | nil => simp [ins, pos, has, Srt]
  | cons x l ih =>
    obtain ⟨h1, h2⟩ := List.pairwise_cons.1 h
    by_cases hc : cmpB x.1 k = -1
    · rw [ins_lessP hc]
      refine List.Pairwise.cons (fun y hy => ?_) (ih h2)
      rcases ins_memP hy with rfl | hy
      · exact hc
      · exact h1 y hy
    · have hp : pos k (x :: l) = 0 := by simp [pos, hc]
      have hh : has k (x :: l) = decide (x.1 = k) := by unfold has; rw [hp]; rfl
      unfold ins
      rw [hp, hh]
      by_cases he : x.1 = k
      · simp only [he, decide_true, if_true, List.take_zero, List.nil_append, Nat.zero_add, List.drop_succ_cons, List.drop_zero]
        exact List.Pairwise.cons (fun y hy => by have := h1 y hy; rw [he] at this; exact this) h2
      · simp only [he, decide_false, Bool.false_eq_true, if_false, List.take_zero, List.nil_append, List.drop_zero]
        have hk : cmpB k x.1 = -1 := by
          have h3 := ord_B.range x.1 k
          have h4 := ord_B.anti k x.1
          rcases h3 with h3 | h3 | h3
          · exact (hc h3).elim
          · exact (he (ord_B.eq _ _ h3)).elim
          · have := ord_B.anti x.1 k; omega
        refine List.Pairwise.cons (fun y hy => ?_) h
        rcases List.mem_cons.1 hy with rfl | hy
        · exact hk
        · exact ord_B.trans _ _ _ hk (h1 y hy)
theorem mem_ins {l : List (ByteArray × ByteArray)} (h : Srt l) (k v : ByteArray) (x : ByteArray × ByteArray) : x ∈ ins k v l ↔ x = (k, v) ∨ (x ∈ l ∧ x.1 ≠ k) := by
  induction l with
  | nil => simp [ins, pos, has]
  | cons y l ih =>
    obtain ⟨h1, h2⟩ := List.pairwise_cons.1 h
    by_cases hc : cmpB y.1 k = -1
    · rw [ins_lessP hc, List.mem_cons, List.mem_cons, ih h2]
      have hy := cmp_ne hc
      constructor
      · rintro (rfl | rfl | ⟨h3, h4⟩)
        · exact .inr ⟨.inl rfl, hy⟩
        · exact .inl rfl
        · exact .inr ⟨.inr h3, h4⟩
      · rintro (rfl | ⟨rfl | h3, h4⟩)
        · exact .inr (.inl rfl)
        · exact .inl rfl
        · exact .inr (.inr ⟨h3, h4⟩)
    · have hp : pos k (y :: l) = 0 := by simp [pos, hc]
      have hh : has k (y :: l) = decide (y.1 = k) := by unfold has; rw [hp]; rfl
      unfold ins
      rw [hp, hh]
      by_cases he : y.1 = k
      · simp only [he, decide_true, if_true, List.take_zero, List.nil_append, Nat.zero_add, List.drop_succ_cons, List.drop_zero, List.mem_cons]
        constructor
        · rintro (h3 | h3)
          · exact .inl h3
          · exact .inr ⟨.inr h3, fun e => by have := h1 x h3; rw [he, e, ord_B.refl] at this; exact absurd this (by decide)⟩
        · rintro (h3 | ⟨rfl | h3, h4⟩)
          · exact .inl h3
          · exact (h4 he).elim
          · exact .inr h3
      · simp only [he, decide_false, Bool.false_eq_true, if_false, List.take_zero, List.nil_append, List.drop_zero, List.mem_cons]
        have hk : cmpB k y.1 = -1 := by
          rcases cmp_three y.1 k with e | e | e
          · exact (hc e).elim
          · exact (he e).elim
          · exact e
        constructor
        · rintro (h3 | h3)
          · exact .inl h3
          · refine .inr ⟨h3, fun e => ?_⟩
            rcases h3 with rfl | h3
            · exact he e
            · have := ord_B.trans _ _ _ hk (h1 x h3)
              rw [e, ord_B.refl] at this
              exact absurd this (by decide)
        · rintro (h3 | ⟨h3, -⟩)
          · exact .inl h3
          · exact .inr h3
theorem ins_len (k v : ByteArray) (l : List (ByteArray × ByteArray)) : (ins k v l).length ≤ l.length + 1 := by
  unfold ins
  simp only [List.length_append, List.length_take, List.length_cons, List.length_drop]
  have := pos_le k l
  split <;> omega
end Go.Proofs.YtkkpdgfllnbigaaGreat.Pm
namespace Go.Proofs.YtkkpdgfllnbigaaGreat
open Go.RowKit Go.Shelf
/-- The map has just these keys. -/
def KeysOf (t : Pm.T) (l : List Kv) : Prop := ∀ k, (∃ v, (k, v) ∈ t.list) ↔ k ∈ l.map Prod.fst
/-- One Put more. -/
theorem Mg.put {w w' : World} {t t' : Pm.T} {k v : ByteArray} (h : Mg w t) (hp : Pm.Puts w.heap.size k v t t') (hi : Pm.In w' t') (hn : t.n < 400) (hk : k.size ≤ 9223372036854775807) : Mg w' t' := by
  have hl := hp.list h.srt
  refine ⟨hi, ?_, (hp.says h.srt h.bal h.inn.underP).bal, ?_, ?_⟩
  · rw [hl]; exact Pm.srt_insP h.srt k v
  · rw [← Pm.T.n_eq, hl]
    have := Pm.ins_len k v t.list
    rw [Pm.T.n_eq] at this
    omega
  · intro x hx
    rw [hl, Pm.mem_ins h.srt] at hx
    rcases hx with rfl | ⟨hx, -⟩
    · exact hk
    · exact h.key x hx
theorem KeysOf.put {w : World} {t t' : Pm.T} {l : List Kv} {k v : ByteArray} {B : Nat} (h : KeysOf t l) (hm : Mg w t) (hp : Pm.Puts B k v t t') : KeysOf t' (l ++ [(k, v)]) := fun j => by
  rw [hp.list hm.srt, List.map_append, List.mem_append, List.map_singleton, List.mem_singleton, ← h j]
  constructor
  · rintro ⟨u, hu⟩
    rw [Pm.mem_ins hm.srt] at hu
    rcases hu with hu | ⟨hu, -⟩
    · cases hu; exact .inr rfl
    · exact .inl ⟨u, hu⟩
  · rintro (⟨u, hu⟩ | rfl)
    · by_cases e : j = k
      · exact ⟨v, (Pm.mem_ins hm.srt _ _ _).2 (.inl (by rw [e]))⟩
      · exact ⟨u, (Pm.mem_ins hm.srt _ _ _).2 (.inr ⟨hu, e⟩)⟩
    · exact ⟨v, (Pm.mem_ins hm.srt _ _ _).2 (.inl rfl)⟩
end Go.Proofs.YtkkpdgfllnbigaaGreat
