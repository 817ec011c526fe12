/-
  The law RegisterMaps (7), walked: its maps are built by Put, asked by Get, and what may not be is refused by every call.
  register: the document's Fits (39), the law's texts (82).
  tagset and register: may these elements be (the document's May, 11).
  tagset and register: the document's May says what Of asks.
  Elements put in one by one, by rising stamps: the plain theory.
-/
import Derived.Test.YtkkpdgfllnbigaaGreatMg15
import Derived.Test.YtkkpdgfllnbigaaGreatMg13
import Derived.Test.YtkkpdgfllnbigaaGreatMg8
namespace Go.Proofs.YtkkpdgfllnbigaaGreat
open Go.RowKit Go.Shelf
set_option linter.unusedSimpArgs false
attribute [local go_sem] Oper.semAt_some

/-- A slice of pairs of strings. -/
def Rp (w : World) (ao : Option Addr) (l : List Kv) : Prop := ∀ k x, l[k]? = some x → ∃ b off, ao = some ⟨b, off, none⟩ ∧ w.cell? ⟨b, off + k * 2, none⟩ = some (.string x.1) ∧ w.cell? ⟨b, off + k * 2 + 1, none⟩ = some (.string x.2)
theorem Rp.below {w w' : World} {ao : Option Addr} {l : List Kv} (h : Rp w ao l) (hb : Below w.heap.size w w') : Rp w' ao l := fun k x hx => by
  obtain ⟨b, off, e, h1, h2⟩ := h k x hx
  exact ⟨b, off, e, cell_stays h1 hb, cell_stays h2 hb⟩
theorem Ot.form {w : World} {B : Nat} {v : Value} {L : List ByteArray} (h : Ot w B v L) : ∃ ao c, v = .slice ao L.length c := by
  rcases h with ⟨h1, h2⟩
  rcases h2 with ⟨e, e2⟩ | ⟨g, cap, cur, e, -⟩
  · exact ⟨none, 0, by rw [e, e2]⟩
  · exact ⟨_, _, e⟩
end Go.Proofs.YtkkpdgfllnbigaaGreat
namespace Go.Proofs.YtkkpdgfllnbigaaGreat
open Go.RowKit Go.Shelf
set_option linter.unusedSimpArgs false
attribute [local go_sem] Oper.semAt_some

end Go.Proofs.YtkkpdgfllnbigaaGreat
namespace Go.Proofs.YtkkpdgfllnbigaaGreat
open Go.RowKit Go.Shelf
set_option linter.unusedSimpArgs false
attribute [local go_sem] Oper.semAt_some

def mayE (l : List El) : Bool := l.all okEl && decide ((l.map Prod.fst).Nodup)
theorem mayE_bad {l : List El} {i : Nat} {x : El} (hx : l[i]? = some x) (h : okEl x = false) : mayE l = false := by
  unfold mayE
  rw [Bool.and_eq_false_iff]
  left
  rw [List.all_eq_false]
  exact ⟨x, List.mem_of_getElem? hx, by simp [h]⟩
theorem mayE_twice {l : List El} {i k : Nat} {x y : El} (hx : l[i]? = some x) (hy : l[k]? = some y) (hk : k < i) (h : y.1 = x.1) : mayE l = false := by
  unfold mayE
  rw [Bool.and_eq_false_iff]
  right
  rw [decide_eq_false_iff_not]
  intro hn
  have h1 : (l.map Prod.fst)[i]? = some x.1 := by rw [List.getElem?_map, hx]; rfl
  have h2 : (l.map Prod.fst)[k]? = some x.1 := by rw [List.getElem?_map, hy, ← h]; rfl
  have hi := (List.getElem?_eq_some_iff.1 h1).1
  have hkl := (List.getElem?_eq_some_iff.1 h2).1
  have e1 := (List.getElem?_eq_some_iff.1 h1).2
  have e2 := (List.getElem?_eq_some_iff.1 h2).2
  exact List.pairwise_iff_getElem.1 hn k i hkl hi hk (e2.trans e1.symm)
theorem nodup_more {l : List El} {i : Nat} {x : El} (hx : l[i]? = some x) (h : ((l.take i).map Prod.fst).Nodup) (hn : ∀ j y, j < i → l[j]? = some y → y.1 ≠ x.1) : ((l.take (i + 1)).map Prod.fst).Nodup := by
  rw [List.take_add_one, hx, List.map_append, List.nodup_append]
  refine ⟨h, by simp, ?_⟩
  intro a ha b hb
  simp only [Option.toList, List.map_cons, List.map_nil, List.mem_singleton] at hb
  subst hb
  obtain ⟨y, hy, rfl⟩ := List.mem_map.1 ha
  obtain ⟨j, hj⟩ := List.mem_iff_getElem?.1 hy
  rw [List.getElem?_take] at hj
  split at hj
  · exact hn j y (by assumption) hj
  · cases hj
set_option maxHeartbeats 4000000 in
set_option maxRecDepth 100000 in
theorem refMay11 {w : World} {ao : Option Addr} {c : Nat} (l : List El) (h : Re w ao l) (hl : l.length ≤ 100000) (hs : ∀ x ∈ l, x.1.2.2.1.size ≤ 9223372036854775807) : Calls Tryz.prog 19 #[.slice ao l.length c] w fun e w' => e = .returned (.bool (mayE l)) ∧ Below w.heap.size w w' := by
  obtain ⟨N, hN⟩ : ∃ N, N = l.length := ⟨_, rfl⟩
  obtain ⟨R, hR⟩ : ∃ R, R = mayE l := ⟨_, rfl⟩
  rw [← hR]
  rw [← hN] at hl ⊢
  have H := hide (And.intro hN (And.intro h hs))
  have HR := hide hR
  clear hN hR h hs
  go_enter Tryz.func19, Tryz.ntmps19
  go_wp2
  go_loopw [3] (fun iv wr => ∃ i : Nat, i ≤ N ∧ iv = .int .i64 i ∧ Hid ((l.take i).all okEl = true ∧ ((l.take i).map Prod.fst).Nodup) ∧ Hid (Below w.heap.size w wr)) (fun iv _ => N - (intOf iv).toNat)
  case atStart => exact ⟨0, by omega, rfl, hide ⟨by simp, by simp⟩, hide (Below.refl _ _)⟩
  case round =>
    obtain ⟨i, hi, rfl, HD, HB⟩ := hrel
    by_cases h1 : i < N
    · have z1 : (i : Int) < (N : Int) := by omega
      have d1 : decide (i < N) = true := by simpa using h1
      obtain ⟨x, hx⟩ : ∃ x, l[i]? = some x := ⟨_, List.getElem?_eq_getElem (by rw [← H.out.1]; exact h1)⟩
      obtain ⟨b, off, hao, c0, c1, c2, c3, c4, c5⟩ := (H.out.2.1.below HB.out).cells hx
      have hsz := H.out.2.2 x (List.mem_of_getElem? hx)
      obtain ⟨⟨g, r, lb, n, ix⟩, y⟩ := x
      dsimp only at c0 c1 c2 c3 c4 c5 hsz
      have HX := hide hx
      have HAO := hide hao
      subst hao
      have hst := fun W => refStamp_any g r lb n ix W hsz
      have htx := fun W => refText_any y W
      have hV : stampV g r lb n ix = stV (g, r, lb, n, ix) := rfl
      rw [hV] at hst
      obtain ⟨V, hVV⟩ : ∃ q, q = stV (g, r, lb, n, ix) := ⟨_, rfl⟩
      obtain ⟨TX, hTX⟩ : ∃ q, q = txtB y := ⟨_, rfl⟩
      rw [← hVV] at hst
      rw [← hTX] at htx
      have HV := hide (And.intro hVV hTX)
      dsimp only [sv] at hst
      clear hx hV hVV hTX hsz
      cases TX with
      | false =>
        have hd : R = false := by rw [HR.out]; exact mayE_bad HX.out (by simp [okEl, ← HV.out.2])
        have HDD := hide hd
        clear hd hst
        go_wp2_with (go_at_call 111; refine (htx _).mono ?_; rintro e w2 ⟨rfl, rfl⟩; dsimp only)
        go_ret
        exact ⟨by first | (rw [HDD.out]; rfl) | rw [HDD.out], HB.out⟩
      | true =>
        cases V with
        | false =>
          have hd : R = false := by rw [HR.out]; exact mayE_bad HX.out (by simp [okEl, ← HV.out.1])
          have HDD := hide hd
          clear hd
          go_wp2_with (first
            | (go_at_call 111; refine (htx _).mono ?_; rintro e w2 ⟨rfl, rfl⟩; dsimp only)
            | (go_at_call 112; refine (hst _).mono ?_; rintro e w3 ⟨rfl, b3⟩; have HB3 := hide (HB.out.trans (b3.mono HB.out.size)); clear b3; dsimp only))
          go_ret
          exact ⟨by first | (rw [HDD.out]; rfl) | rw [HDD.out], HB3.out⟩
        | true =>
          go_wp2_with (first
            | (go_at_call 111; refine (htx _).mono ?_; rintro e w2 ⟨rfl, rfl⟩; dsimp only)
            | (go_at_call 112; refine (hst _).mono ?_; rintro e w3 ⟨rfl, b3⟩; have HB3 := hide (HB.out.trans (b3.mono HB.out.size)); clear b3; dsimp only))
          clear c0 c1 c2 c3 c4 c5 hst htx
          go_loopw [4] (fun kv wq => ∃ k : Nat, k ≤ i ∧ kv = .int .i64 k ∧ Hid (∀ j y, j < k → l[j]? = some y → y.1 ≠ (g, r, lb, n, ix)) ∧ Hid (Below w.heap.size w wq)) (fun kv _ => i - (intOf kv).toNat)
          case atStart => exact ⟨0, by omega, rfl, hide (fun j y h => by omega), HB3⟩
          case round =>
            obtain ⟨k, hk, rfl, HK, HBK⟩ := hrel
            by_cases h2 : k < i
            · have z2 : (k : Int) < (i : Int) := by omega
              have d2 : decide (k < i) = true := by simpa using h2
              have z3 : (k : Int) < (N : Int) := by omega
              have d3 : decide (k < N) = true := by simp; omega
              obtain ⟨x2, hx2⟩ : ∃ x, l[k]? = some x := ⟨_, List.getElem?_eq_getElem (by rw [← H.out.1]; omega)⟩
              obtain ⟨b', off', e', a0, a1, a2, a3, a4, -⟩ := (H.out.2.1.below HBK.out).cells hx2
              injection e' with e'
              injection e' with e1 e2
              subst e1 e2
              obtain ⟨b', off', e', c0, c1, c2, c3, c4, -⟩ := (H.out.2.1.below HBK.out).cells HX.out
              injection e' with e'
              injection e' with e1 e2
              subst e1 e2
              obtain ⟨⟨g2, r2, l2, n2, i2⟩, y2⟩ := x2
              dsimp only at a0 a1 a2 a3 a4 c0 c1 c2 c3 c4
              have heq := fun W => run_eq52' (g2, r2, l2, n2, i2) (g, r, lb, n, ix) W
              dsimp only [svT, sv] at heq
              have HX2 := hide hx2
              clear hx2
              by_cases hse : ((g2, r2, l2, n2, i2) : St) = (g, r, lb, n, ix)
              · have hd : R = false := by rw [HR.out]; exact mayE_twice HX.out HX2.out h2 hse
                rw [decide_eq_true hse] at heq
                have HDD := hide hd
                clear hd hse
                go_wp2
                go_quiet (fail)
                go_wp2
                go_ret
                exact ⟨by first | (rw [HDD.out]; rfl) | rw [HDD.out], HBK.out.trans ((below_drew _ _).mono HBK.out.size)⟩
              · rw [decide_eq_false hse] at heq
                have HSE := hide hse
                clear hse
                go_wp2
                go_quiet (fail)
                go_wp2
                go_roundw
                case rel =>
                  refine ⟨k + 1, by omega, by go_num, hide (fun j y hj hy => ?_), hide (HBK.out.trans ((below_drew _ _).mono HBK.out.size))⟩
                  by_cases hjk : j = k
                  · subst hjk
                    rw [HX2.out] at hy
                    cases hy
                    exact HSE.out
                  · exact HK.out j y (by omega) hy
                case measure => simp [intOf]; omega
            · obtain rfl : k = i := by omega
              have d2 : decide (k < k) = false := by simp
              have z2 : ¬ (k : Int) < (k : Int) := by omega
              go_wp2
              go_roundw
              case rel =>
                refine ⟨k + 1, by omega, by go_num, hide ⟨?_, nodup_more HX.out HD.out.2 HK.out⟩, HBK⟩
                rw [List.take_add_one, HX.out]
                simp [HD.out.1, okEl, ← HV.out.1, ← HV.out.2]
              case measure => simp [intOf]; omega
    · obtain rfl : i = N := by omega
      have d1 : decide (i < i) = false := by simp
      have z1 : ¬ (i : Int) < (i : Int) := by omega
      have hd : R = true := by
        rw [HR.out]
        have := HD.out
        rw [H.out.1, List.take_length] at this
        simp [mayE, this.1, this.2]
      have HDD := hide hd
      clear hd
      go_wp2
      go_ret
      exact ⟨by first | (rw [HDD.out]; rfl) | rw [HDD.out], HB.out⟩
end Go.Proofs.YtkkpdgfllnbigaaGreat
namespace Go.Proofs.YtkkpdgfllnbigaaGreat
open Go.RowKit Go.Shelf

theorem keyT_inj {s t : St} (hs : stV s = true) (ht : stV t = true) (h : keyT s = keyT t) : s = t := by
  obtain ⟨g, r, l, n, x⟩ := s
  obtain ⟨g', r', l', n', x'⟩ := t
  have ho := key_order hs ht
  have he : keyS g r l n x = keyS g' r' l' n' x' := h
  rw [cmpS_eq] at ho
  have h1 : cmpB (keyS g r l n x) (keyS g' r' l' n' x') = cmpT (g, r, l, n, x) (g', r', l', n', x') := ho
  rw [he, ord_B.refl] at h1
  exact ord_T.eq _ _ h1.symm
theorem mayE_good (l : List El) : mayE l = goodL l := by
  unfold mayE goodL
  cases ha : l.all okEl with
  | false => rfl
  | true =>
    rw [Bool.true_and, Bool.true_and, decide_eq_decide]
    have hv : ∀ x ∈ l, stV x.1 = true := fun x hx => by
      have := List.all_eq_true.1 ha x hx
      simp only [okEl, Bool.and_eq_true] at this
      exact this.1
    constructor
    · intro hn
      rw [List.Nodup, List.pairwise_map] at hn ⊢
      exact hn.imp_of_mem (fun {a b} h1 h2 hne e => hne (keyT_inj (hv a h1) (hv b h2) e))
    · intro hn
      rw [List.Nodup, List.pairwise_map] at hn ⊢
      exact hn.imp (fun {a b} hne e => hne (by rw [e]))
end Go.Proofs.YtkkpdgfllnbigaaGreat
namespace Go.Proofs.YtkkpdgfllnbigaaGreat
open Go.RowKit Go.Shelf

def posE (x : El) : List El → Nat
  | [] => 0
  | y :: l => if cmpT y.1 x.1 = -1 then posE x l + 1 else 0
theorem posE_le (x : El) : ∀ l, posE x l ≤ l.length
  | [] => Nat.le_refl _
  | y :: l => by
    unfold posE
    split
    · have := posE_le x l; simp; omega
    · exact Nat.zero_le _
theorem posE_lt (x : El) : ∀ (l : List El) (n : Nat) (y : El), l[n]? = some y → n < posE x l → cmpT y.1 x.1 = -1
  | [], n, y, h, _ => by simp at h
  | z :: l, n, y, h, hn => by
    unfold posE at hn
    split at hn
    · rename_i hz
      cases n with
      | zero => simp at h; subst h; exact hz
      | succ n => exact posE_lt x l n y (by simpa using h) (by omega)
    · omega
theorem posE_at (x : El) : ∀ (l : List El) (y : El), l[posE x l]? = some y → ¬ cmpT y.1 x.1 = -1
  | [], y, h => by simp at h
  | z :: l, y, h => by
    unfold posE at h
    split at h
    · exact posE_at x l y (by simpa using h)
    · rename_i hz
      simp at h; subst h; exact hz
def insE (x : El) (l : List El) : List El := l.take (posE x l) ++ [x] ++ l.drop (posE x l)
def insL (o l : List El) : List El := l.foldl (fun o x => insE x o) o
def srtE (l : List El) : List El := insL [] l
theorem insE_perm (x : El) (l : List El) : (insE x l).Perm (x :: l) := by
  unfold insE
  have h : (x :: l) = x :: (l.take (posE x l) ++ l.drop (posE x l)) := by rw [List.take_append_drop]
  rw [h, List.append_assoc]
  exact List.perm_middle
theorem insL_perm : ∀ (l o : List El), (insL o l).Perm (o ++ l)
  | [], o => by simp [insL]
  | x :: l, o => by
    have h1 := insL_perm l (insE x o)
    show (insL (insE x o) l).Perm _
    refine h1.trans ?_
    refine ((insE_perm x o).append_right l).trans ?_
    exact List.perm_middle.symm
theorem srtE_perm (l : List El) : (srtE l).Perm l := by have := insL_perm l []; rw [List.nil_append] at this; exact this
theorem insL_snoc (o l : List El) (x : El) : insL o (l ++ [x]) = insE x (insL o l) := by simp [insL]
theorem srtE_len (l : List El) : (srtE l).length = l.length := (srtE_perm l).length_eq
def UpS (l : List El) : Prop := l.Pairwise (fun a b => cmpT a.1 b.1 = -1)
theorem gt_of {a b : St} (h : ¬ cmpT a b = -1) (hne : a ≠ b) : cmpT b a = -1 := by
  have h1 := ord_T.range a b
  have h2 := ord_T.anti a b
  have h3 : cmpT a b ≠ 0 := fun e => hne (ord_T.eq _ _ e)
  omega
theorem insE_up (x : El) (l : List El) (h : UpS l) (hne : ∀ y ∈ l, y.1 ≠ x.1) : UpS (insE x l) := by
  have hsp : l = l.take (posE x l) ++ l.drop (posE x l) := (List.take_append_drop _ _).symm
  have hp := h
  rw [hsp] at hp
  obtain ⟨p1, p2, p3⟩ := List.pairwise_append.1 hp
  have hfr : ∀ y ∈ l.take (posE x l), cmpT y.1 x.1 = -1 := fun y hy => by
    obtain ⟨n, hn⟩ := List.mem_iff_getElem?.1 hy
    rw [List.getElem?_take] at hn
    split at hn
    · exact posE_lt x l n y hn (by assumption)
    · cases hn
  have hbk : ∀ y ∈ l.drop (posE x l), cmpT x.1 y.1 = -1 := fun y hy => by
    obtain ⟨n, hn⟩ := List.mem_iff_getElem?.1 hy
    rw [List.getElem?_drop] at hn
    obtain ⟨z, hz⟩ : ∃ z, l[posE x l]? = some z := ⟨_, List.getElem?_eq_getElem (by have := (List.getElem?_eq_some_iff.1 hn).1; omega)⟩
    have hxz : cmpT x.1 z.1 = -1 := gt_of (posE_at x l z hz) (hne z (List.mem_of_getElem? hz))
    cases n with
    | zero =>
      rw [Nat.add_zero, hz] at hn
      cases hn
      exact hxz
    | succ n =>
      have h1 := List.pairwise_iff_getElem.1 h (posE x l) (posE x l + (n + 1)) (List.getElem?_eq_some_iff.1 hz).1 (List.getElem?_eq_some_iff.1 hn).1 (by omega)
      rw [(List.getElem?_eq_some_iff.1 hz).2, (List.getElem?_eq_some_iff.1 hn).2] at h1
      exact ord_T.trans _ _ _ hxz h1
  unfold insE UpS
  rw [List.append_assoc, List.pairwise_append]
  refine ⟨p1, ?_, ?_⟩
  · rw [List.singleton_append, List.pairwise_cons]
    exact ⟨hbk, p2⟩
  · intro a ha b hb
    rw [List.singleton_append, List.mem_cons] at hb
    rcases hb with rfl | hb
    · exact hfr a ha
    · exact ord_T.trans _ _ _ (hfr a ha) (hbk b hb)
theorem insL_up : ∀ (l o : List El), UpS o → ((o ++ l).map Prod.fst).Nodup → UpS (insL o l)
  | [], o, h, _ => h
  | x :: l, o, h, hn => by
    show UpS (insL (insE x o) l)
    refine insL_up l _ (insE_up x o h (fun y hy e => ?_)) ?_
    · rw [List.map_append, List.nodup_append] at hn
      exact hn.2.2 y.1 (List.mem_map_of_mem hy) x.1 (by simp) e
    · have hp : ((insE x o ++ l).map Prod.fst).Perm ((o ++ x :: l).map Prod.fst) := (((insE_perm x o).append_right l).trans List.perm_middle.symm).map _
      exact hp.nodup_iff.2 hn
theorem srtE_up (l : List El) (h : (l.map Prod.fst).Nodup) : UpS (srtE l) := insL_up l [] List.Pairwise.nil (by simpa using h)
/-- Two rows that rise, of the same elements, are one. -/
theorem up_eq : ∀ {l m : List El}, UpS l → UpS m → l.Perm m → l = m
  | [], m, _, _, h => (h.symm.eq_nil).symm
  | a :: l, [], _, _, h => absurd h.length_eq (by simp)
  | a :: l, b :: m, hl, hm, h => by
    obtain ⟨a1, a2⟩ := List.pairwise_cons.1 hl
    obtain ⟨b1, b2⟩ := List.pairwise_cons.1 hm
    have hab : a = b := by
      have ha : a ∈ b :: m := h.subset (by simp)
      have hb : b ∈ a :: l := h.symm.subset (by simp)
      rcases List.mem_cons.1 ha with e | ha
      · exact e
      · rcases List.mem_cons.1 hb with e | hb
        · exact e.symm
        · have h1 := b1 a ha
          have h2 := a1 b hb
          have := ord_T.anti b.1 a.1
          omega
    subst hab
    rw [up_eq a2 b2 ((List.perm_cons a).1 h)]
end Go.Proofs.YtkkpdgfllnbigaaGreat
