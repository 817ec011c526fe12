/-
  OPS: places sorted and once, and insertion, are one; plainly.
  OPS: the document's Copy 10.
  OPS: Things 38.
  OPS: parts of rows of places, places laid behind places; two operations that turn the world and come up together.
-/
import Derived.Test.YtpepgoelnagoaaaGreatDoorMg15
import Derived.Test.YtpepgoelnagoaaaGreatDoorMg13
import Derived.Test.YtpepgoelnagoaaaGreatDoorMg4
namespace Go.Proofs.YtpepgoelnagoaaaGreatDoor
open Go.RowKit Go.Shelf Go.Sort
set_option linter.unusedSimpArgs false

open Classical in
noncomputable def onceL : Option Pl → List Pl → List Pl
  | _, [] => []
  | p, x :: t => if p = some x then onceL p t else x :: onceL (some x) t
theorem onceP_fst : ∀ (l : List Px) (p : Option Pl), (onceP p l).map (·.1) = onceL p (l.map (·.1))
  | [], p => rfl
  | x :: t, p => by
    rw [onceP_cons, List.map_cons, onceL]
    split
    · exact onceP_fst t p
    · rw [List.map_cons, onceP_fst t]
/-- Strictly in order. -/
def SSp (l : List Pl) : Prop := l.Pairwise (fun a b => cfL a b = -1)
theorem ss_eqP : ∀ a b : List Pl, SSp a → SSp b → (∀ x, x ∈ a ↔ x ∈ b) → a = b
  | [], [], _, _, _ => rfl
  | [], y :: t, _, _, h => by have := (h y).2 (by simp); simp at this
  | x :: s, [], _, _, h => by have := (h x).1 (by simp); simp at this
  | x :: s, y :: t, ha, hb, h => by
    have a1 := List.pairwise_cons.1 ha
    have b1 := List.pairwise_cons.1 hb
    have hxy : x = y := by
      have h1 := (h x).1 (by simp)
      have h2 := (h y).2 (by simp)
      rcases List.mem_cons.1 h1 with e | h1
      · exact e
      · rcases List.mem_cons.1 h2 with e | h2
        · exact e.symm
        · have c1 := b1.1 x h1
          have c2 := a1.1 y h2
          have := ord_L.anti x y
          omega
    subst hxy
    have : s = t := ss_eqP s t a1.2 b1.2 (fun z => by
      have hz := h z
      rw [List.mem_cons, List.mem_cons] at hz
      constructor
      · intro hs
        rcases hz.1 (.inr hs) with e | ht
        · subst e; have := a1.1 _ hs; rw [ord_L.refl] at this; omega
        · exact ht
      · intro ht
        rcases hz.2 (.inr ht) with e | hs
        · subst e; have := b1.1 _ ht; rw [ord_L.refl] at this; omega
        · exact hs)
    rw [this]
/-- In order, some perhaps more than once. -/
def WSp (l : List Pl) : Prop := l.Pairwise (fun a b => cfL b a ≠ -1)
theorem once_memP : ∀ (l : List Pl) (p : Option Pl) (x : Pl), (x ∈ onceL p l → x ∈ l) ∧ (x ∈ l → x ∈ onceL p l ∨ p = some x)
  | [], p, x => by simp [onceL]
  | y :: t, p, x => by
    rw [onceL]
    split
    next h =>
      have := once_memP t p x
      refine ⟨fun hx => List.mem_cons_of_mem _ (this.1 hx), fun hx => ?_⟩
      rcases List.mem_cons.1 hx with e | hx
      · right; rw [e]; exact h
      · exact this.2 hx
    next h =>
      have := once_memP t (some y) x
      refine ⟨fun hx => ?_, fun hx => ?_⟩
      · rcases List.mem_cons.1 hx with e | hx
        · rw [e]; simp
        · exact List.mem_cons_of_mem _ (this.1 hx)
      · left
        rcases List.mem_cons.1 hx with e | hx
        · rw [e]; simp
        · rcases this.2 hx with h1 | h1
          · exact List.mem_cons_of_mem _ h1
          · injection h1 with h1; rw [h1]; simp
theorem once_ssP : ∀ (l : List Pl) (p : Option Pl), WSp l → (∀ q, p = some q → ∀ x ∈ l, cfL x q ≠ -1) → SSp (onceL p l) ∧ (∀ q, p = some q → ∀ x ∈ onceL p l, cfL q x = -1)
  | [], p, _, _ => by simp [onceL, SSp]
  | y :: t, p, hw, hp => by
    have h1 := List.pairwise_cons.1 hw
    rw [onceL]
    split
    next h => exact once_ssP t p h1.2 (fun q hq x hx => hp q hq x (List.mem_cons_of_mem _ hx))
    next h =>
      have h2 := once_ssP t (some y) h1.2 (fun q hq x hx => by injection hq with hq; subst hq; exact h1.1 x hx)
      have h3 := h2.2 y rfl
      refine ⟨List.pairwise_cons.2 ⟨h3, h2.1⟩, fun q hq x hx => ?_⟩
      have hy : cfL q y = -1 := by
        have g1 := hp q hq y (by simp)
        have g2 : cfL q y ≠ 0 := fun e => h (by rw [hq, ord_L.eq _ _ e])
        have := ord_L.anti y q
        have := ord_L.range q y
        omega
      rcases List.mem_cons.1 hx with e | hx
      · rw [e]; exact hy
      · exact ord_L.trans _ _ _ hy (h3 x hx)
/-- So many stand ahead of x. -/
def posP (x : Pl) : List Pl → Nat
  | [] => 0
  | y :: t => if cfL y x = -1 then posP x t + 1 else 0
theorem posP_le (x : Pl) : ∀ l, posP x l ≤ l.length
  | [] => Nat.le_refl _
  | y :: t => by rw [posP]; split <;> simp; exact posP_le x t
theorem posP_lt (x : Pl) : ∀ (l : List Pl) (k : Nat) (y : Pl), l[k]? = some y → k < posP x l → cfL y x = -1
  | [], k, y, h, _ => by simp at h
  | z :: t, 0, y, h, hk => by
    simp at h; subst h
    rw [posP] at hk
    split at hk
    · assumption
    · omega
  | z :: t, k + 1, y, h, hk => by
    rw [posP] at hk
    split at hk
    · exact posP_lt x t k y (by simpa using h) (by omega)
    · omega
theorem posP_at (x : Pl) : ∀ (l : List Pl) (y : Pl), l[posP x l]? = some y → cfL y x ≠ -1
  | [], y, h => by simp at h
  | z :: t, y, h => by
    rw [posP] at h
    split at h
    · exact posP_at x t y (by simpa using h)
    next hz => simp at h; subst h; exact hz
open Classical in
/-- x put where it belongs, if it is not there. -/
noncomputable def insP (x : Pl) (l : List Pl) : List Pl := if l[posP x l]? = some x then l else l.take (posP x l) ++ [x] ++ l.drop (posP x l)
theorem insP_there (x : Pl) (l : List Pl) (h : l[posP x l]? = some x) : insP x l = l := by unfold insP; rw [if_pos h]
theorem insP_new (x : Pl) (l : List Pl) (h : l[posP x l]? ≠ some x) : insP x l = l.take (posP x l) ++ [x] ++ l.drop (posP x l) := by unfold insP; rw [if_neg h]
theorem insP_len (x : Pl) (l : List Pl) : (insP x l).length ≤ l.length + 1 := by
  unfold insP
  split
  · omega
  · have := posP_le x l
    simp only [List.length_append, List.length_take, List.length_drop, List.length_singleton]; omega
theorem insP_mem (x : Pl) (l : List Pl) (z : Pl) : z ∈ insP x l ↔ z = x ∨ z ∈ l := by
  unfold insP
  split
  next h =>
    refine ⟨.inr, fun h1 => ?_⟩
    rcases h1 with e | h1
    · rw [e]; exact List.mem_of_getElem? h
    · exact h1
  next h =>
    have h2 : z ∈ l ↔ z ∈ l.take (posP x l) ∨ z ∈ l.drop (posP x l) := by rw [← List.mem_append, List.take_append_drop]
    rw [h2]
    simp only [List.mem_append, List.mem_singleton]
    constructor
    · rintro ((a | a) | a)
      · exact .inr (.inl a)
      · exact .inl a
      · exact .inr (.inr a)
    · rintro (a | a | a)
      · exact .inl (.inr a)
      · exact .inl (.inl a)
      · exact .inr a
theorem insP_cons (x y : Pl) (t : List Pl) : insP x (y :: t) = if cfL y x = -1 then y :: insP x t else if y = x then y :: t else x :: y :: t := by
  unfold insP
  by_cases h : cfL y x = -1
  · have hp : posP x (y :: t) = posP x t + 1 := by rw [posP, if_pos h]
    rw [hp, if_pos h]
    simp only [List.getElem?_cons_succ, List.take_succ_cons, List.drop_succ_cons, List.cons_append]
    split <;> simp_all
  · have hp : posP x (y :: t) = 0 := by rw [posP, if_neg h]
    rw [hp, if_neg h]
    simp
theorem insP_ss (x : Pl) : ∀ l : List Pl, SSp l → SSp (insP x l)
  | [], _ => by simp [insP, SSp]
  | y :: t, h => by
    have h1 := List.pairwise_cons.1 h
    rw [insP_cons]
    split
    next hy =>
      refine List.pairwise_cons.2 ⟨fun z hz => ?_, insP_ss x t h1.2⟩
      rcases (insP_mem x t z).1 hz with e | hz
      · rw [e]; exact hy
      · exact h1.1 z hz
    next hy =>
      split
      · exact h
      next hn =>
        have hx : cfL x y = -1 := by
          have g2 : cfL y x ≠ 0 := fun e => hn (ord_L.eq _ _ e)
          have := ord_L.anti x y
          have := ord_L.range y x
          omega
        refine List.pairwise_cons.2 ⟨fun z hz => ?_, h⟩
        rcases List.mem_cons.1 hz with e | hz
        · rw [e]; exact hx
        · exact ord_L.trans _ _ _ hx (h1.1 z hz)
/-- All put, one behind the other. -/
noncomputable def insAllP : List Pl → List Pl → List Pl
  | out, [] => out
  | out, x :: t => insAllP (insP x out) t
theorem insAllP_snoc : ∀ (l : List Pl) (out : List Pl) (x : Pl), insAllP out (l ++ [x]) = insP x (insAllP out l)
  | [], _, _ => rfl
  | y :: t, out, x => insAllP_snoc t (insP y out) x
theorem insAllP_ok : ∀ (l out : List Pl), SSp out → SSp (insAllP out l) ∧ ∀ z, z ∈ insAllP out l ↔ z ∈ out ∨ z ∈ l
  | [], out, h => ⟨h, by simp [insAllP]⟩
  | x :: t, out, h => by
    have := insAllP_ok t (insP x out) (insP_ss x out h)
    refine ⟨this.1, fun z => ?_⟩
    rw [insAllP, this.2 z, insP_mem, List.mem_cons]
    constructor
    · rintro ((a | a) | a)
      · exact .inr (.inl a)
      · exact .inl a
      · exact .inr (.inr a)
    · rintro (a | a | a)
      · exact .inl (.inr a)
      · exact .inl (.inl a)
      · exact .inr a
theorem insAllP_len : ∀ (l out : List Pl), (insAllP out l).length ≤ out.length + l.length
  | [], out => by simp [insAllP]
  | x :: t, out => by
    have h1 := insAllP_len t (insP x out)
    have h2 := insP_len x out
    rw [insAllP, List.length_cons]; omega
theorem things_is {L L' : List Px} (hp : L'.Perm L) (hs : L'.Pairwise (fun a b => cfL a.1 b.1 ≤ 0)) : (onceP none L').map (·.1) = insAllP [] (L.map (·.1)) := by
  rw [onceP_fst]
  have hw : WSp (L'.map (·.1)) := by
    unfold WSp
    rw [List.pairwise_map]
    refine hs.imp ?_
    intro a b hab
    have := cfL_anti a.1 b.1
    omega
  have h1 := insAllP_ok (L.map (·.1)) [] (by simp [SSp])
  have h2 := (once_ssP _ none hw (by simp)).1
  refine ss_eqP _ _ h2 h1.1 (fun x => ?_)
  rw [h1.2 x]
  have h := once_memP (L'.map (·.1)) none x
  have hm : x ∈ L'.map (·.1) ↔ x ∈ L.map (·.1) := (hp.map (·.1)).mem_iff
  constructor
  · intro hx; exact .inr (hm.1 (h.1 hx))
  · intro hx
    rcases hx with hx | hx
    · cases hx
    · rcases h.2 (hm.2 hx) with h3 | h3
      · exact h3
      · cases h3
end Go.Proofs.YtpepgoelnagoaaaGreatDoor
namespace Go.Proofs.YtpepgoelnagoaaaGreatDoor
open Go.RowKit Go.Shelf
set_option linter.unusedSimpArgs false
set_option linter.unusedVariables false
attribute [local go_sem] Oper.semAt_some

/-- Texts laid into a new row. -/
theorem copy_strs {w : World} {ao : Option Addr} {c : Nat} {p : List ByteArray} (hr : Rs w ao p) (hn : ao = none → c = 0) (hl : p.length ≤ 1000000) :
    ∃ a' c' w', (Builtin.append_ #[30, 30] 30 #[.slice none 0 0, .slice ao p.length c]).run Tryz.prog w = .ok (.slice a' p.length c') w' ∧ Os w' w.heap.size (.slice a' p.length c') p ∧ Below w.heap.size w w' := by
  have h9 := Tryz.info9
  cases hi0 : Tryz.prog.info? 9 with
  | none => rw [hi0] at h9; cases h9
  | some i0 =>
    rw [hi0] at h9
    simp only [Option.map_some, Option.some.injEq, Prod.mk.injEq] at h9
    cases ao with
    | none =>
      have hp := hr.1 rfl
      subst hp
      have hc := hn rfl
      subst hc
      exact ⟨none, 0, w, run_append_owned_none (P := Tryz.prog) (w := w) w.heap.size 30 30 9 i0 1 Tryz.underlying30 hi0 (.slice none 0 0) 0 [] (World.ownsRow_nil _ _ _ _), Os.nil _ _, Below.refl _ _⟩
    | some ad =>
      obtain ⟨v', w', hr', h2, h3, _⟩ := run_append_own (P := Tryz.prog) w w.heap.size 30 30 9 i0 (.string ⟨#[]⟩) 1 16 Tryz.underlying30 hi0 h9.1 h9.2.1 h9.2.2 rfl (by decide) (.slice none 0 0) 0 [] (World.ownsRow_nil _ _ _ _) ad p.length c (p.map Value.string) (by simp) (fun j u hj => by
        rw [List.getElem?_map] at hj
        obtain ⟨x, hx, rfl⟩ := Option.map_eq_some_iff.1 hj
        exact hr.2 ad rfl j x hx) (fun u hu => by
        obtain ⟨x, hx, rfl⟩ := List.mem_map.1 hu
        rfl) (by unfold maxLen; omega) (by omega) (Nat.le_refl _)
      rw [Nat.zero_add, List.nil_append] at h2
      have hO : Os w' w.heap.size v' p := h2
      obtain ⟨a', c', rfl, -⟩ := hO.shape
      exact ⟨a', c', w', hr', hO, (Below.refl _ w).grown h3 (Nat.le_refl _) (fun k hk => by cases hk)⟩

set_option maxHeartbeats 8000000 in
set_option maxRecDepth 100000 in
theorem copy10_any (ao : Option Addr) (cap : Nat) (ps : List Od) (w : World) (hr : Rq w ao ps) (hlen : ps.length ≤ 100000) (hpl : ∀ o ∈ ps, o.p.length ≤ 1000000) :
    Calls Tryz.prog 10 #[.slice ao ps.length cap] w fun e w' => ∃ v, e = .returned v ∧ ∃ xs, xs.map Prod.fst = ps ∧ Oq w' w.heap.size v xs ∧ Below w.heap.size w w' := by
  go_enter Tryz.func10, Tryz.ntmps10
  go_wp2
  go_loopw [3, 4] (fun v3 v4 wr => ∃ (j : Nat) (xs : List Ox) (a3 : Option Addr) (c3 : Nat), j ≤ ps.length ∧ v4 = .int .i64 (j : Nat) ∧ v3 = .slice a3 xs.length c3 ∧ Hid (xs.map Prod.fst = ps.take j) ∧ Hid (Oq wr w.heap.size (.slice a3 xs.length c3) xs) ∧ Hid (Below w.heap.size w wr))
    (fun _ v4 _ => ps.length - (intOf v4).toNat)
  case atStart => exact ⟨0, [], none, 0, Nat.zero_le _, rfl, rfl, hide (by simp), hide (Oq.nil _ _), hide (Below.refl _ _)⟩
  case round =>
    obtain ⟨j, xs, a3, c3, hj, rfl, rfl, HX, HO, HB⟩ := hrel
    by_cases hlt : j < ps.length
    · obtain ⟨x, hx⟩ : ∃ q, ps[j]? = some q := ⟨_, List.getElem?_eq_getElem hlt⟩
      have hxl := hpl x (List.mem_of_getElem? hx)
      obtain ⟨ab, aoff, pa, pc, rfl, hp, c0, c1', c2, c3', c4, c5⟩ := (hr.below HB.out) j x hx
      have HXX := hide hx
      have hxslen : xs.length ≤ 100000 := by
        have := congrArg List.length HX.out
        rw [List.length_map, List.length_take] at this
        omega
      clear hx
      obtain ⟨xp, xk, xs', xd, xn, xt⟩ := x
      dsimp only at c0 c1' c2 c3' c4 c5 hp hxl
      obtain ⟨w1, hw1⟩ : ∃ q, q = wr.alloc (.cells (oc6 (.slice pa xp.length pc) xk xs' xd xn xt) 34) := ⟨_, rfl⟩
      have d1 : Below wr.heap.size wr w1 := by rw [hw1]; exact (Below.refl _ _).alloc (Nat.le_refl _) _
      have m1 : w1.heap[wr.heap.size]? = some (.cells (oc6 (.slice pa xp.length pc) xk xs' xd xn xt) 34 (0, 0)) := by rw [hw1]; exact heap_alloc_new _ _
      have z1 : w1.heap.size = wr.heap.size + 1 := by rw [hw1]; simp
      obtain ⟨a2, c2', w2, hr2, hO2, hb2⟩ := copy_strs (hp.rs.below d1) hp.nil hxl
      have m2 : w2.heap[wr.heap.size]? = some (.cells (oc6 (.slice pa xp.length pc) xk xs' xd xn xt) 34 (0, 0)) := (hb2.block _ (by omega)).trans m1
      have m3 := (Ki.set_one (i := 0) (.slice a2 xp.length c2') m2).1
      obtain ⟨w3, hw3⟩ : ∃ q, q = w2.setCell ⟨wr.heap.size, 0, none⟩ (.slice a2 xp.length c2') := ⟨_, rfl⟩
      rw [← hw3] at m3
      replace m3 : w3.heap[wr.heap.size]? = some (.cells (oc6 (.slice a2 xp.length c2') xk xs' xd xn xt) 34 (0, 0)) := m3
      have b3 : Below wr.heap.size wr w3 := by rw [hw3]; exact (d1.trans (hb2.mono (by omega))).setCell (p := ⟨wr.heap.size, 0, none⟩) (Nat.le_refl _) _
      have hO3 : Os w3 w.heap.size (.slice a2 xp.length c2') xp := by
        rw [hw3]
        exact row_lift (hO2.only (Only.ofGrown (grown_setCell w2 ⟨wr.heap.size, 0, none⟩ _)) (fun k hk e => by have := (World.ownsRow.lt hO2 k hk).1; simp only [Option.some.injEq] at e; omega)) (by have := HB.out.size; omega)
      have hQ3 := HO.out.below b3
      have d4 : Below w3.heap.size w3 (w3.alloc (.cells (oc6 (.slice a2 xp.length c2') xk xs' xd xn xt) 34)) := (Below.refl _ _).alloc (Nat.le_refl _) _
      obtain ⟨v5, w5, hr5, hQ5, -, hb5⟩ := push_op (x := (⟨xp, xk, xs', xd, xn, xt⟩, a2, c2')) (hQ3.below d4) (hO3.below d4) hxl (heap_alloc_new w3 (.cells (oc6 (.slice a2 xp.length c2') xk xs' xd xn xt) 34)) (by omega) (by have := HB.out.size; have := b3.size; simp; omega)
      obtain ⟨a5, c5', rfl, -, -, -, -⟩ := hQ5.shape
      have HF := hide (And.intro hQ5 (((HB.out.trans (b3.mono HB.out.size)).alloc (Nat.le_trans HB.out.size b3.size) (.cells (oc6 (.slice a2 xp.length c2') xk xs' xd xn xt) 34)).trans hb5))
      obtain ⟨⟨x0, x1, x2, x3, x4, x5⟩, f0, f1, f2, f3, f4, f5⟩ := blk6 m1
      obtain ⟨⟨y0, y1, y2, y3, y4, y5⟩, g0, g1, g2, g3, g4, g5⟩ := blk6 m2
      obtain ⟨z0, _⟩ := blk6 m3
      obtain ⟨z0, z1', z2, z3, z4, z5⟩ := z0
      have HW1 := hide hw1
      have HW3 := hide hw3
      clear hw1 hw3 d1 m1 m2 m3 b3 hO3 hQ3 d4 hQ5 hb5 hb2 hO2 hp hxl z1
      go_upto_region 6 with fail
      rw [← HW1.out]
      go_upto_region 7 with (at_builtin; refine wpList_turn (OP := .call { callee := .builtin .append, args := #[.const (.slice none 0 0), .tmp 17], argTypes := #[30, 30] }) (T := 30) rfl rfl rfl (exec_append rfl rfl hr2) ?_; clear hr2)
      rw [← HW3.out]
      go_wp2_with (at_builtin; refine wpList_turn (OP := .call { callee := .builtin .append, args := #[.tmp 20, .tmp 22], argTypes := #[22, 22] }) (T := 22) rfl rfl rfl (exec_append rfl rfl hr5) ?_; clear hr5)
      go_roundw
      case rel => exact ⟨j + 1, xs ++ [(⟨xp, xk, xs', xd, xn, xt⟩, a2, c2')], a5, c5', by omega, by go_num, by simp, hide (by
          obtain ⟨hk', he⟩ := List.getElem?_eq_some_iff.1 HXX.out
          rw [List.take_succ_eq_append_getElem hk', he, List.map_append, HX.out]
          rfl), hide HF.out.1, hide HF.out.2⟩
      case measure => simp [intOf]; omega
    · have he : xs.map Prod.fst = ps := by rw [HX.out, List.take_of_length_le (by omega)]
      have HE := hide he
      clear he
      go_wp2
      go_ret
      exact ⟨_, rfl, xs, HE.out, HO.out, HB.out⟩
end Go.Proofs.YtpepgoelnagoaaaGreatDoor
namespace Go.Proofs.YtpepgoelnagoaaaGreatDoor
open Go.RowKit Go.Shelf
set_option linter.unusedSimpArgs false
set_option linter.unusedVariables false
attribute [local go_sem] Oper.semAt_some

/-- Where an operation does what it does. -/
def plOf (o : Od) : Pl := (o.p, o.k, o.s)
theorem exec_one75 {ev : Operand → Value} {x : Operand} {T : TypeId} {a : Option Addr} {n c : Nat} {k : Int} {s : ByteArray} {w : World} (hx : ev x = .agg #[.slice a n c, .int .i64 k, .string s]) :
    (execOp ev { dst := none, op := .buildSlice 70 1 #[(0, x)], type := T, pos := "", after := #[], guard := none }).run Tryz.prog w = .ok (.value (.slice (some ⟨w.heap.size, 0, none⟩) 1 1)) (w.alloc (.cells #[.slice a n c, .int .i64 k, .string s] 75)) := by
  unfold execOp
  simp [hx, go_sem]
theorem compact84_nil (w : World) : Calls Tryz.prog 84 #[.slice none 0 0, .func (.func 85) #[] #[]] w fun e w' => e = .returned (.slice none 0 0) ∧ w' = w := by
  go_enter Tryz.func84, Tryz.ntmps84
  go_wp2
  go_ret
  exact ⟨rfl, rfl⟩
theorem sort82_nil (w : World) : Calls Tryz.prog 82 #[.slice none 0 0, .func (.func 83) #[] #[]] w fun e w' => e = .returned (.tuple #[]) ∧ w' = w := AnyF.slices_SortFunc_none Tryz.sortPlaces none 0 (.func (.func 83) #[] #[]) w

set_option maxHeartbeats 4000000 in
set_option maxRecDepth 100000 in
theorem things38_any (ao : Option Addr) (cap : Nat) (ps : List Od) (w : World) (hr : Rq w ao ps) (hlen : ps.length ≤ 100000) (hpl : ∀ o ∈ ps, o.p.length ≤ 1000000) :
    Calls Tryz.prog 38 #[.slice ao ps.length cap] w fun e w' => ∃ v, e = .returned v ∧ ∃ R : List Px, R.map (·.1) = insAllP [] (ps.map plOf) ∧ Pq w' w.heap.size v R ∧ Below w.heap.size w w' := by
  go_enter Tryz.func38, Tryz.ntmps38
  go_wp2
  go_loopw [3, 8] (fun v3 v4 wr => ∃ (j : Nat) (xs : List Px) (a3 : Option Addr) (c3 : Nat), j ≤ ps.length ∧ v4 = .int .i64 (j : Nat) ∧ v3 = .slice a3 xs.length c3 ∧ Hid (xs.map (·.1) = (ps.map plOf).take j) ∧ Hid (Pq wr w.heap.size (.slice a3 xs.length c3) xs) ∧ Hid (Below w.heap.size w wr))
    (fun _ v4 _ => ps.length - (intOf v4).toNat)
  case atStart => exact ⟨0, [], none, 0, Nat.zero_le _, rfl, rfl, hide (by simp), hide (Pq.nil _ _), hide (Below.refl _ _)⟩
  case round =>
    obtain ⟨j, xs, a3, c3, hj, rfl, rfl, HX, HO, HB⟩ := hrel
    by_cases hlt : j < ps.length
    · obtain ⟨x, hx⟩ : ∃ q, ps[j]? = some q := ⟨_, List.getElem?_eq_getElem hlt⟩
      have hxl := hpl x (List.mem_of_getElem? hx)
      obtain ⟨ab, aoff, pa, pc, rfl, hp, c0, c1', c2, c3', c4, c5⟩ := (hr.below HB.out) j x hx
      have HXX := hide hx
      have hxslen : xs.length ≤ 100000 := by
        have := congrArg List.length HX.out
        rw [List.length_map, List.length_take] at this
        omega
      clear hx
      obtain ⟨xp, xk, xs', xd, xn, xt⟩ := x
      dsimp only at c0 c1' c2 c3' c4 c5 hp hxl
      obtain ⟨w1, hw1⟩ : ∃ q, q = wr.alloc (.cells (oc6 (.slice pa xp.length pc) xk xs' xd xn xt) 34) := ⟨_, rfl⟩
      have d1 : Below wr.heap.size wr w1 := by rw [hw1]; exact (Below.refl _ _).alloc (Nat.le_refl _) _
      have m1 : w1.heap[wr.heap.size]? = some (.cells (oc6 (.slice pa xp.length pc) xk xs' xd xn xt) 34 (0, 0)) := by rw [hw1]; exact heap_alloc_new _ _
      have z1 : w1.heap.size = wr.heap.size + 1 := by rw [hw1]; simp
      have hp1 := hp.rs.below d1
      have HW1 := hide hw1
      have H1 := hide (And.intro d1 (And.intro z1 hxl))
      clear hw1 d1 z1 hp hxl
      obtain ⟨⟨x0, x1, x2, x3, x4, x5⟩, -⟩ := blk6 m1
      go_upto_region 5 with fail
      rw [← HW1.out]
      refine wp_region_held_drew (S := fun w' => w'.cell? ⟨wr.heap.size, 0, none⟩ = some (.slice pa xp.length pc) ∧ w'.cell? ⟨wr.heap.size, 1, none⟩ = some (.int .i64 xk) ∧ w'.cell? ⟨wr.heap.size, 2, none⟩ = some (.string xs')) (by kernel_rfl) ⟨x0, x1, x2⟩ (fun hHeld => ?_)
      obtain ⟨Wd, hWd⟩ : ∃ r, r = w1.drew := ⟨_, rfl⟩
      have dd : Below w1.heap.size w1 Wd := by rw [hWd]; exact (Below.refl _ _).drew
      rw [← hWd] at hHeld ⊢
      clear hWd x0 x1 x2 x3 x4 x5
      have k81 := clone_any (c := pc) (hp1.below dd) H1.out.2.2
      refine take_op (i := 0) (d := 12) (OP := Op.move (Operand.tmp 3)) (T := 70) (v := ?vog1) rfl rfl rfl rfl (by kernel_rfl) (by kernel_rfl) (by kernel_rfl) (fun _ _ _ h => h) (by rfl) ?hog1 hHeld ?rog1
      case hog1 => (intro w' hSw; (try dsimp only at hSw); go_simp <;> with_reducible rfl)
      try simp only [Act.put, List.setIfInBounds_toArray, List.set_cons_zero, List.set_cons_succ]
      refine take_op (i := 1) (d := 13) (OP := Op.fieldAddr 34 (Operand.tmp 5) 0) (T := 0) (v := ?vog2) rfl rfl rfl rfl (by kernel_rfl) (by kernel_rfl) (by kernel_rfl) (fun _ _ _ h => h) (by rfl) ?hog2 hHeld ?rog2
      case hog2 => (intro w' hSw; (try dsimp only at hSw); go_simp <;> with_reducible rfl)
      try simp only [Act.put, List.setIfInBounds_toArray, List.set_cons_zero, List.set_cons_succ]
      refine take_op (i := 2) (d := 14) (OP := Op.load 30 (Operand.tmp 13)) (T := 30) (v := ?vog3) rfl rfl rfl rfl (by kernel_rfl) (by kernel_rfl) (by kernel_rfl) (fun _ _ _ h => h) (by rfl) ?hog3 hHeld ?rog3
      case hog3 => (intro w' hSw; (try dsimp only at hSw); go_simp <;> with_reducible rfl)
      try simp only [Act.put, List.setIfInBounds_toArray, List.set_cons_zero, List.set_cons_succ]
      refine take_op (i := 4) (d := 16) (OP := Op.fieldAddr 34 (Operand.tmp 5) 1) (T := 0) (v := ?vog4) rfl rfl rfl rfl (by kernel_rfl) (by kernel_rfl) (by kernel_rfl) (fun _ _ _ h => h) (by rfl) ?hog4 hHeld ?rog4
      case hog4 => (intro w' hSw; (try dsimp only at hSw); go_simp <;> with_reducible rfl)
      try simp only [Act.put, List.setIfInBounds_toArray, List.set_cons_zero, List.set_cons_succ]
      refine take_op (i := 5) (d := 17) (OP := Op.load 31 (Operand.tmp 16)) (T := 31) (v := ?vog5) rfl rfl rfl rfl (by kernel_rfl) (by kernel_rfl) (by kernel_rfl) (fun _ _ _ h => h) (by rfl) ?hog5 hHeld ?rog5
      case hog5 => (intro w' hSw; (try dsimp only at hSw); go_simp <;> with_reducible rfl)
      try simp only [Act.put, List.setIfInBounds_toArray, List.set_cons_zero, List.set_cons_succ]
      refine take_op (i := 6) (d := 18) (OP := Op.fieldAddr 34 (Operand.tmp 5) 2) (T := 0) (v := ?vog6) rfl rfl rfl rfl (by kernel_rfl) (by kernel_rfl) (by kernel_rfl) (fun _ _ _ h => h) (by rfl) ?hog6 hHeld ?rog6
      case hog6 => (intro w' hSw; (try dsimp only at hSw); go_simp <;> with_reducible rfl)
      try simp only [Act.put, List.setIfInBounds_toArray, List.set_cons_zero, List.set_cons_succ]
      refine take_op (i := 7) (d := 19) (OP := Op.load 9 (Operand.tmp 18)) (T := 9) (v := ?vog7) rfl rfl rfl rfl (by kernel_rfl) (by kernel_rfl) (by kernel_rfl) (fun _ _ _ h => h) (by rfl) ?hog7 hHeld ?rog7
      case hog7 => (intro w' hSw; (try dsimp only at hSw); go_simp <;> with_reducible rfl)
      try simp only [Act.put, List.setIfInBounds_toArray, List.set_cons_zero, List.set_cons_succ]
      refine call_op (i := 3) (d := 15) (OP := Op.call { callee := Callee.value (Operand.func 81), args := #[Operand.tmp 14], argTypes := #[30] }) (T := 30) (f := 81) (args := #[.slice pa xp.length pc]) rfl rfl rfl rfl (by kernel_rfl) (by rfl) (by go_simp) ?_
      refine k81.mono ?_
      rintro e y1 ⟨u, rfl, hu, by1⟩
      clear k81
      have hh1 := And.intro (Ki.cell_stays hHeld.1 by1) (And.intro (Ki.cell_stays hHeld.2.1 by1) (Ki.cell_stays hHeld.2.2 by1))
      refine ⟨_, rfl, hh1, ?_⟩
      replace hHeld := hh1
      obtain ⟨a2, c2', rfl, -, -⟩ := row_form hu
      clear hh1
      try simp only [Act.put, List.setIfInBounds_toArray, List.set_cons_zero, List.set_cons_succ]
      have bw : Below wr.heap.size wr y1 := H1.out.1.trans ((dd.trans (by1.mono dd.size)).mono (by have := H1.out.2.1; omega))
      have hO2 : Os y1 w.heap.size (.slice a2 xp.length c2') xp := row_lift hu (by have := HB.out.size; have := H1.out.1.size; have := dd.size; omega)
      have hQ2 := HO.out.below bw
      obtain ⟨z, hz⟩ : ∃ q, q = y1.alloc (.cells #[.slice a2 xp.length c2', .int .i64 xk, .string xs'] 75) := ⟨_, rfl⟩
      have dz : Below y1.heap.size y1 z := by rw [hz]; exact (Below.refl _ _).alloc (Nat.le_refl _) _
      have hzn : z.heap[y1.heap.size]? = some (.cells (encP ((xp, xk, xs'), a2, c2')).toArray 75 (0, 0)) := by rw [hz]; exact heap_alloc_new _ _
      obtain ⟨v5, w5, hr5, hQ5, hg5, hb5⟩ := push_pl (x := ((xp, xk, xs'), a2, c2')) (hQ2.below dz) (hO2.below dz) H1.out.2.2 hzn (by omega) (by have := HB.out.size; have := bw.size; have := dz.size; omega)
      have hz2 := And.intro (Ki.cell_stays hHeld.1 dz) (And.intro (Ki.cell_stays hHeld.2.1 dz) (Ki.cell_stays hHeld.2.2 dz))
      have hne : ¬ ((Value.slice a3 xs.length c3).ownBlock = some wr.heap.size) := fun e => by have := (World.ownsRow.lt HO.out.row _ e).2; omega
      have hh5 := And.intro ((Only.ofGrown hg5).cell hz2.1 hne) (And.intro ((Only.ofGrown hg5).cell hz2.2.1 hne) ((Only.ofGrown hg5).cell hz2.2.2 hne))
      have hbz : Below w.heap.size w z := HB.out.trans ((bw.trans (dz.mono bw.size)).mono HB.out.size)
      have hB5 := hbz.trans hb5
      clear hne hbz hb5 hg5
      refine take_op (i := 8) (d := 20) (OP := Op.build 75 #[(0, Operand.tmp 15), (1, Operand.tmp 17), (2, Operand.tmp 19)]) (T := 75) (v := ?vog8) rfl rfl rfl rfl (by kernel_rfl) (by kernel_rfl) (by kernel_rfl) (fun _ _ _ h => h) (by rfl) ?hog8 hHeld ?rog8
      case hog8 => (intro w' hSw; (try dsimp only at hSw); go_simp <;> with_reducible rfl)
      try simp only [Act.put, List.setIfInBounds_toArray, List.set_cons_zero, List.set_cons_succ]
      refine turn_op (i := 9) (d := 21) (OP := Op.buildSlice 70 1 #[(0, Operand.tmp 20)]) (T := 70) (v := .slice (some ⟨y1.heap.size, 0, none⟩) 1 1) (w' := z) rfl rfl rfl rfl (by kernel_rfl) (by rfl) (by rw [hz]; exact exec_one75 rfl) hz2 ?_
      try simp only [Act.put, List.setIfInBounds_toArray, List.set_cons_zero, List.set_cons_succ]
      refine turn_op (i := 10) (d := 22) (OP := Op.call { callee := Callee.builtin Builtin.append, args := #[Operand.tmp 12, Operand.tmp 21], argTypes := #[70, 70] }) (T := 70) (v := v5) (w' := w5) rfl rfl rfl rfl (by kernel_rfl) (by rfl) (exec_append rfl rfl hr5) hh5 ?_
      try simp only [Act.put, List.setIfInBounds_toArray, List.set_cons_zero, List.set_cons_succ]
      refine take_op (i := 11) (d := 3) (OP := Op.assign (Operand.tmp 22)) (T := 70) (v := ?vog9) rfl rfl rfl rfl (by kernel_rfl) (by kernel_rfl) (by kernel_rfl) (fun _ _ _ h => h) (by rfl) ?hog9 hh5 ?rog9
      case hog9 => (intro w' hSw; (try dsimp only at hSw); go_simp <;> with_reducible rfl)
      try simp only [Act.put, List.setIfInBounds_toArray, List.set_cons_zero, List.set_cons_succ]
      refine wpAnyH_done (by kernel_rfl) ?_ _
      obtain ⟨a5, c5', rfl⟩ := hQ5.form
      have HF := And.intro (hide hQ5) (hide hB5)
      clear hQ5 hB5 hh5 hz2 hr5 hzn dz hz hQ2 hO2 bw hHeld by1 hu dd hp1 m1
      go_wp2
      go_roundw
      case rel => exact ⟨j + 1, xs ++ [((xp, xk, xs'), a2, c2')], a5, c5', by omega, by go_num, by simp, hide (by
          obtain ⟨hk', he⟩ := List.getElem?_eq_some_iff.1 HXX.out
          have hk2 : j < (ps.map plOf).length := by rw [List.length_map]; exact hk'
          rw [List.take_succ_eq_append_getElem hk2, List.map_append, HX.out, List.getElem_map, he]
          rfl), HF.1, HF.2⟩
      case measure => simp [intOf]; omega
    · have he : xs.map (·.1) = ps.map plOf := by rw [HX.out, List.take_of_length_le (by rw [List.length_map]; omega)]
      have hxslen : xs.length ≤ 100000 := by
        have := congrArg List.length he
        rw [List.length_map, List.length_map] at this
        omega
      have HE := hide he
      clear he
      rcases HO.out.row.shape with ⟨e, e2⟩ | ⟨g, cp, e, hg, -⟩
      · subst e2
        injection e with e1 _ e3
        subst e1 e3
        have hnil := HE.out
        have k82 := fun W => sort82_nil W
        have k84 := fun W => compact84_nil W
        go_wp2_with (first | (go_at_call 82; refine (k82 _).mono ?_; rintro e w' ⟨rfl, rfl⟩) | (go_at_call 84; refine (k84 _).mono ?_; rintro e w' ⟨rfl, rfl⟩))
        go_ret
        exact ⟨_, rfl, [], by rw [← HE.out]; rfl, Pq.nil _ _, HB.out⟩
      · injection e with e1 _ e3
        subst e1 e3
        have k82 := sortPl_any HO.out hxslen
        go_upto_region 8 with (go_at_call 82; refine k82.mono ?_; rintro e w2 ⟨rfl, o2, L', hpm, hso, hq⟩; clear k82; have hll : xs.length = L'.length := hpm.length_eq.symm; have k84 := compact84_any hq (by omega); rw [← hll] at k84; have HS := hide (And.intro o2 (And.intro hpm (And.intro hso hll))); clear o2 hpm hso hq hll)
        go_wp2_with (go_at_call 84; refine k84.mono ?_; rintro e w3 ⟨v3, rfl, hq3, o3⟩; clear k84; have HQ := hide (And.intro hq3 o3); clear hq3 o3)
        go_ret
        obtain ⟨o2, hpm, hso, -⟩ := HS.out
        refine ⟨_, rfl, onceP none L', ?_, HQ.out.1, ?_⟩
        · rw [things_is hpm hso, HE.out]
        · exact HB.out.trans (((o2.trans HQ.out.2 (fun _ _ e => e)).below HB.out.size (fun k hk => by rw [hk]; exact hg)))
end Go.Proofs.YtpepgoelnagoaaaGreatDoor
namespace Go.Proofs.YtpepgoelnagoaaaGreatDoor
open Go.RowKit Go.Shelf Go.Sort
set_option linter.unusedSimpArgs false

/-- Behind this address, if it is one, lie the names l. -/
def RpO (w : World) (ao : Option Addr) (l : List Px) : Prop := (ao = none → l = []) ∧ ∀ a, ao = some a → ∀ j u, (flatP l)[j]? = some u → w.cell? (a.add j) = some u
theorem RpO.nil (w : World) (ao : Option Addr) : RpO w ao [] := ⟨fun _ => rfl, by simp [flatP]⟩
theorem RpO.ofRn {w : World} {b off : Nat} {l : List Px} (h : Rpl w b off l) : RpO w (some ⟨b, off, none⟩) l := ⟨by simp, fun a ha j u hj => by cases ha; rw [add_lit]; exact h j u hj⟩
theorem RpO.below {w w' : World} {ao : Option Addr} {l : List Px} (h : RpO w ao l) (hb : Below w.heap.size w w') : RpO w' ao l := ⟨h.1, fun a ha j u hj => by
  have := h.2 a ha j u hj
  exact (hb.cell (World.block_lt_of_cell? _ _ this)).trans this⟩
theorem RpO.take {w : World} {ao : Option Addr} {l : List Px} (h : RpO w ao l) (n : Nat) : RpO w ao (l.take n) := ⟨fun e => by rw [h.1 e]; simp, fun a ha j u hj => h.2 a ha j u (by
  have : flatP l = flatP (l.take n) ++ flatP (l.drop n) := by rw [← flatP_app, List.take_append_drop]
  rw [this, List.getElem?_append_left (List.getElem?_eq_some_iff.1 hj).1]; exact hj)⟩
theorem RpO.drop {w : World} {b off : Nat} {l : List Px} (h : RpO w (some ⟨b, off, none⟩) l) (n : Nat) (hn : n ≤ l.length) : RpO w (some ⟨b, off + n * 3, none⟩) (l.drop n) := ⟨by simp, fun a ha j u hj => by
  cases ha
  have e : flatP l = flatP (l.take n) ++ flatP (l.drop n) := by rw [← flatP_app, List.take_append_drop]
  have e2 : (flatP (l.take n)).length = n * 3 := by rw [flatP_len, List.length_take]; omega
  have := h.2 _ rfl (n * 3 + j) u (by rw [e, List.getElem?_append_right (by omega), e2, Nat.add_sub_cancel_left]; exact hj)
  rw [add_lit] at this ⊢
  rw [Nat.add_assoc]; exact this⟩
theorem sl_hi {w : World} {ao : Option Addr} {l : List Px} {n cap : Nat} (hr : RpO w ao l) (hn : n ≤ l.length) (hc : l.length ≤ cap) (ha : ∀ a, ao = some a → a.spot = none) :
    ∃ A, (∀ w', (Instr.slice 70 (.slice ao l.length cap) none (some (.int .i64 n)) none).run Tryz.prog w' = .ok (.slice A n cap) w') ∧ RpO w A (l.take n) ∧ (A = none → ao = none) := by
  refine ⟨if cap = 0 then ao else ao.map (fun x => x.add (0 * 3)), fun w' => ?_, ?_, ?_⟩
  · have h2 : (0 : Int) ≤ (n : Int) ∧ (n : Int) ≤ (cap : Int) := by omega
    simp [Instr.slice, Instr.sliceBounds, Instr.sliceBound, asIntOf, run_underlying Tryz.underlying70, go_sem, show n ≤ cap by omega, Tryz.sizeOf75]
  · have : (if cap = 0 then ao else ao.map (fun x => x.add (0 * 3))) = ao := by
      split
      · rfl
      · cases ao with
        | none => rfl
        | some a => obtain ⟨b, o, s⟩ := a; have := ha _ rfl; simp only at this; subst this; rw [Option.map_some, add_lit]; simp
    rw [this]; exact hr.take n
  · split
    · exact id
    · cases ao <;> simp
theorem sl_lo {w : World} {ao : Option Addr} {l : List Px} {n cap : Nat} (hr : RpO w ao l) (hn : n ≤ l.length) (hc : l.length ≤ cap) (ha : ∀ a, ao = some a → a.spot = none) :
    ∃ A, (∀ w', (Instr.slice 70 (.slice ao l.length cap) (some (.int .i64 n)) none none).run Tryz.prog w' = .ok (.slice A (l.length - n) (cap - n)) w') ∧ RpO w A (l.drop n) ∧ (A = none → ao = none) := by
  refine ⟨if cap = n then ao else ao.map (fun x => x.add (n * 3)), fun w' => ?_, ?_, ?_⟩
  · have h2 : (0 : Int) ≤ (n : Int) ∧ (n : Int) ≤ (l.length : Int) := by omega
    simp [Instr.slice, Instr.sliceBounds, Instr.sliceBound, asIntOf, run_underlying Tryz.underlying70, go_sem, hn, hc, show n ≤ cap by omega, Tryz.sizeOf75]
  · by_cases h : cap = n
    · rw [if_pos h, List.drop_eq_nil_of_le (by omega)]; exact RpO.nil _ _
    · rw [if_neg h]
      cases ao with
      | none => rw [hr.1 rfl]; simp; exact RpO.nil _ _
      | some a => obtain ⟨b, o, s⟩ := a; have := ha _ rfl; simp only at this; subst this; rw [Option.map_some, add_lit]; exact hr.drop n hn
  · split
    · exact id
    · cases ao <;> simp
theorem exec_slhP {ev : Operand → Value} {x z : Operand} {T : TypeId} {w : World} {u b v : Value} (hx : ev x = u) (hz : ev z = b) (h : (Instr.slice 70 u none (some b) none).run Tryz.prog w = .ok v w) :
    (execOp ev { dst := none, op := .slice 70 x none (some z) none, type := T, pos := "", after := #[], guard := none }).run Tryz.prog w = .ok (.value v) w := by
  have h2 : (Instr.sliceAt 70 u none (some b) none).run Tryz.prog w = .ok v w := by simp [Instr.sliceAt, run_underlying Tryz.underlying70, h]
  simp [execOp, hx, hz, h2, Result.andThen]
theorem exec_slloP {ev : Operand → Value} {x z : Operand} {T : TypeId} {w : World} {u b v : Value} (hx : ev x = u) (hz : ev z = b) (h : (Instr.slice 70 u (some b) none none).run Tryz.prog w = .ok v w) :
    (execOp ev { dst := none, op := .slice 70 x (some z) none none, type := T, pos := "", after := #[], guard := none }).run Tryz.prog w = .ok (.value v) w := by
  have h2 : (Instr.sliceAt 70 u (some b) none none).run Tryz.prog w = .ok v w := by simp [Instr.sliceAt, run_underlying Tryz.underlying70, h]
  simp [execOp, hx, hz, h2, Result.andThen]
theorem exec_ldP {ev : Operand → Value} {x : Operand} {T : TypeId} {w : World} {b o : Nat} {u v z : Value} (hx : ev x = .pointer (some ⟨b, o, none⟩)) (c0 : w.cell? ⟨b, o, none⟩ = some u) (c1 : w.cell? ⟨b, o + 1, none⟩ = some v) (c2 : w.cell? ⟨b, o + 2, none⟩ = some z) :
    (execOp ev { dst := none, op := .load 75 x, type := T, pos := "", after := #[], guard := none }).run Tryz.prog w = .ok (.value (.agg #[u, v, z])) w := by
  unfold execOp
  simp only [hx]
  go_simp
theorem exec_ixP {ev : Operand → Value} {x y : Operand} {T : TypeId} {w : World} {b o n c k : Nat} (hx : ev x = .slice (some ⟨b, o, none⟩) n c) (hy : ev y = .int .i64 k) (hk : (k : Int) < (n : Int)) :
    (execOp ev { dst := none, op := .indexAddr 70 x y, type := T, pos := "", after := #[], guard := none }).run Tryz.prog w = .ok (.value (.pointer (some ⟨b, o + k * 3, none⟩))) w := by
  unfold execOp
  simp only [hx, hy]
  go_simp
/-- Places that are read, laid on places that are owned. -/
theorem app_pl {w : World} {B : Nat} {v : Value} {p l : List Px} {ao : Option Addr} {c : Nat} (hown : Opl w B v p) (hc : ao = none → c = 0) (hrd : RpO w ao l) (hbytes : p.length + l.length ≤ 1000000) (hB : B ≤ w.heap.size) :
    ∃ a' c' w', (Builtin.append_ #[70, 70] 70 #[v, .slice ao l.length c]).run Tryz.prog w = .ok (.slice a' (p ++ l).length c') w' ∧ Opl w' B (.slice a' (p ++ l).length c') (p ++ l) ∧ Below B w w' := by
  obtain ⟨i0, hi, hz0, hz1, hz2⟩ : ∃ i0, Tryz.prog.info? 75 = some i0 ∧ i0.zero = some (.agg #[.slice none 0 0, .int .i64 0, .string ⟨#[]⟩]) ∧ i0.size = 3 ∧ i0.bytes = 48 := by
    have h9 := Tryz.info75
    cases hi0 : Tryz.prog.info? 75 with
    | none => rw [hi0] at h9; cases h9
    | some i0 =>
      rw [hi0] at h9
      simp only [Option.map_some, Option.some.injEq, Prod.mk.injEq] at h9
      exact ⟨i0, rfl, h9⟩
  cases ao with
  | none =>
    have hl := hrd.1 rfl
    subst hl
    have hc0 := hc rfl
    subst hc0
    obtain ⟨a', c', hv, _, _⟩ := row_form hown
    subst hv
    rw [List.append_nil]
    exact ⟨a', c', w, run_append_owned_none (P := Tryz.prog) (w := w) B 70 70 75 i0 3 Tryz.underlying70 hi _ _ _ hown, hown, Below.refl _ _⟩
  | some ad =>
    obtain ⟨v', w', hr, h2, h3, _⟩ := run_append_own (P := Tryz.prog) w B 70 70 75 i0 (.agg #[.slice none 0 0, .int .i64 0, .string ⟨#[]⟩]) 3 48 Tryz.underlying70 hi hz0 hz1 hz2 rfl (by decide) v p.length (flatP p) hown ad l.length c (flatP l) (flatP_len l) (fun j u hj => hrd.2 ad rfl j u hj) (flatP_one l) (by unfold maxLen; omega) (by omega) hB
    have hO : Opl w' B v' (p ++ l) := by unfold Opl; rw [flatP_app, List.length_append]; exact h2
    obtain ⟨a', c', hv, _, _⟩ := row_form hO
    subst hv
    exact ⟨a', c', w', hr, hO, (Below.refl B w).grown h3 hB (fun k hk => (World.ownsRow.lt hown k hk).1)⟩
/-- Two operations that turn the world come up together in a region that draws its order. -/
theorem turns_op {P : Program} {md : Region.Mode} {ops : Array Oper} {Q : Exit → Act → World → Prop} {S : World → Prop} {i j : Nat} {oi oj : Oper} {di dj : Tmp} {OPi OPj : Op} {Ti Tj : TypeId} {v u : Value} {fuel : Nat} {listed : Array Bool} {a : Act} {w w1 w2 : World}
    (hi : ops[i]? = some oi) (hdi : oi.dst = some di) (hoi : oi.op = OPi) (hti : oi.type = Ti) (hj : ops[j]? = some oj) (hdj : oj.dst = some dj) (hoj : oj.op = OPj) (htj : oj.type = Tj)
    (hr : Region.ready md ops listed = [i, j]) (hwi : Region.wanted oi (yielded ops a.tmps) = true) (hwj : Region.wanted oj (yielded ops a.tmps) = true)
    (hyi : (execOp a.eval { dst := none, op := OPi, type := Ti, pos := "", after := #[], guard := none }).run P w = .ok (.value v) w1)
    (hyj : (execOp a.eval { dst := none, op := OPj, type := Tj, pos := "", after := #[], guard := none }).run P w = .ok (.value u) w2)
    (hS : S w1) (hS' : S w2)
    (h1 : wpAnyH P md ops Q S fuel (listed.setIfInBounds i true) (a.put (some di) v) w1) (h2 : wpAnyH P md ops Q S fuel (listed.setIfInBounds j true) (a.put (some dj) u) w2) : wpAnyH P md ops Q S (fuel + 1) listed a w := by
  refine wpAnyH_ready hr (by simp) (AllReadyH.cons hi (fun K hK => ?_) (AllReadyH.cons hj (fun K hK => ?_) AllReadyH.nil))
  · rw [if_pos hwi]
    unfold Oper.wp
    rw [exec_same a.eval oi hoi hti, hyi]
    show K (a.put oi.dst v) w1
    rw [hdi]
    exact hK.out _ _ hS (fun _ => h1)
  · rw [if_pos hwj]
    unfold Oper.wp
    rw [exec_same a.eval oj hoj htj, hyj]
    show K (a.put oj.dst u) w2
    rw [hdj]
    exact hK.out _ _ hS' (fun _ => h2)
theorem Opl.rpo {w : World} {B n c : Nat} {ao : Option Addr} {L : List Px} (h : Opl w B (.slice ao n c) L) : RpO w ao L ∧ (∀ a, ao = some a → a.spot = none) ∧ (ao = none → c = 0) ∧ (n = L.length) ∧ L.length ≤ c := by
  have hr := fun g n' cap => Opl.rn (w := w) (B := B) (g := g) (n := n') (cap := cap) (L := L)
  rcases h.shape with ⟨h1, rfl⟩ | ⟨g, cap, h1, h2, h3, h4⟩
  · injection h1 with e1 e2 e3
    subst e1 e2 e3
    exact ⟨RpO.nil _ _, by simp, fun _ => rfl, rfl, Nat.le_refl _⟩
  · injection h1 with e1 e2 e3
    subst e1 e2 e3
    exact ⟨RpO.ofRn (hr _ _ _ h), by rintro a ha; cases ha; rfl, by simp, rfl, h4⟩
theorem RpO.at {w : World} {ao : Option Addr} {L : List Px} (h : RpO w ao L) (ha : ∀ a, ao = some a → a.spot = none) {k : Nat} {x : Px} (hx : L[k]? = some x) : ∃ g o, ao = some ⟨g, o, none⟩ ∧ w.cell? ⟨g, o + k * 3, none⟩ = some (.slice x.2.1 x.1.1.length x.2.2) ∧ w.cell? ⟨g, o + k * 3 + 1, none⟩ = some (.int .i64 x.1.2.1) ∧ w.cell? ⟨g, o + k * 3 + 2, none⟩ = some (.string x.1.2.2) := by
  cases ao with
  | none => rw [h.1 rfl] at hx; simp at hx
  | some a =>
    obtain ⟨g, o, s⟩ := a
    have := ha _ rfl
    simp only at this
    subst this
    have hr : Rpl w g o L := fun j v hj => by
      have := h.2 _ rfl j v hj
      rw [add_lit] at this
      exact this
    exact ⟨g, o, rfl, hr.at hx⟩
theorem one_rpo (W : World) (x : Px) : RpO (W.alloc (.cells #[.slice x.2.1 x.1.1.length x.2.2, .int .i64 x.1.2.1, .string x.1.2.2] 75)) (some ⟨W.heap.size, 0, none⟩) [x] := ⟨by simp, fun a ha j u hj => by
  cases ha
  have hc : (W.alloc (.cells #[.slice x.2.1 x.1.1.length x.2.2, .int .i64 x.1.2.1, .string x.1.2.2] 75)).heap[W.heap.size]? = some (.cells (encP x).toArray 75 (0, 0)) := heap_alloc_new W _
  rw [add_lit, cell_of_row _ _ (0 + j) _ 75 (0, 0) hc, Nat.zero_add]
  simpa [flatP] using hj⟩
theorem exec_index22 {ev : Operand → Value} {x i : Operand} {T : TypeId} {b off n cap k : Nat} {w : World} (hx : ev x = .slice (some ⟨b, off, none⟩) n cap) (hi : ev i = .int .i64 (k : Nat)) (hk : k < n) :
    (execOp ev { dst := none, op := .indexAddr 22 x i, type := T, pos := "", after := #[], guard := none }).run Tryz.prog w = .ok (.value (.pointer (some ⟨b, off + k * 6, none⟩))) w := by
  unfold execOp
  simp [hx, hi, hk, go_sem]
theorem exec_alloc75 {ev : Operand → Value} {T : TypeId} {w : World} :
    (execOp ev { dst := none, op := .alloc 75, type := T, pos := "", after := #[], guard := none }).run Tryz.prog w = .ok (.value (.pointer (some ⟨w.heap.size, 0, none⟩))) (w.alloc (.cells #[.slice none 0 0, .int .i64 0, .string ⟨#[]⟩] 75)) := by
  unfold execOp
  simp [go_sem]
theorem store3 {W : World} {pb : Nat} {u v z : Value} (h : W.heap[pb]? = some (.cells #[u, v, z] 75 (0, 0))) (a b c : Value) :
    (((W.setCell ⟨pb, 0, none⟩ a).setCell ⟨pb, 1, none⟩ b).setCell ⟨pb, 2, none⟩ c).heap[pb]? = some (.cells #[a, b, c] 75 (0, 0)) ∧ Only (fun j => j = pb) W (((W.setCell ⟨pb, 0, none⟩ a).setCell ⟨pb, 1, none⟩ b).setCell ⟨pb, 2, none⟩ c) := by
  obtain ⟨c1, o1⟩ := Ki.set_one (i := 0) a h
  obtain ⟨c2, o2⟩ := Ki.set_one (i := 1) b c1
  obtain ⟨c3, o3⟩ := Ki.set_one (i := 2) c c2
  exact ⟨c3, (o1.trans o2 (fun _ _ e => e)).trans o3 (fun _ _ e => e)⟩
end Go.Proofs.YtpepgoelnagoaaaGreatDoor
