/-
  NAMER: names in a row; slices.Clone and slices.SortFunc over them.
-/
import Derived.Test.YtkjabnpniingnaaGreatDoorCmpD
import Derived.Test.YtkjabnpniingnaaGreatDoorCut9
import Derived.Shelf.SlSortCmp.NoneTotal
import Derived.Shelf.SlicesE.Clone
import Derived.Test.YtkjabnpniingnaaGreatDoorLayS
namespace Go.Proofs.YtkjabnpniingnaaGreatDoor
open Go.RowKit Go.Shelf Go.Sort
set_option linter.unusedSimpArgs false

abbrev Nm := Int × ByteArray × Int
def encN (x : Nm) : List Value := [.int .i64 x.1, .string x.2.1, .int .i64 x.2.2]
def flatN (l : List Nm) : List Value := l.flatMap encN
theorem flatN_nil : flatN [] = [] := rfl
theorem flatN_cons (x : Nm) (l : List Nm) : flatN (x :: l) = encN x ++ flatN l := rfl
theorem flatN_app (l m : List Nm) : flatN (l ++ m) = flatN l ++ flatN m := by simp [flatN]
theorem flatN_len : ∀ l : List Nm, (flatN l).length = l.length * 3
  | [] => rfl
  | x :: l => by rw [flatN_cons, List.length_append, flatN_len l, List.length_cons]; simp [encN]; omega
theorem flatN_get : ∀ (l : List Nm) (k j : Nat) (x : Nm), l[k]? = some x → j < 3 → (flatN l)[k * 3 + j]? = (encN x)[j]?
  | [], k, j, x, h, _ => by simp at h
  | y :: l, 0, j, x, h, hj => by
    simp at h; subst h
    rw [flatN_cons, List.getElem?_append_left (by simp [encN]; omega)]
    simp
  | y :: l, k + 1, j, x, h, hj => by
    rw [flatN_cons, List.getElem?_append_right (by simp [encN]; omega)]
    rw [show (k + 1) * 3 + j - (encN y).length = k * 3 + j by simp [encN]; omega]
    exact flatN_get l k j x (by simpa using h) hj
theorem flatN_one (l : List Nm) (v : Value) (h : v ∈ flatN l) : v.oneCell' = true := by
  simp only [flatN, List.mem_flatMap] at h
  obtain ⟨x, _, hx⟩ := h
  simp [encN] at hx
  rcases hx with rfl | rfl | rfl <;> rfl
theorem flatK_N (l : List Nm) : (flatK encN 3 l.toArray).toList = flatN l := by
  apply List.ext_getElem?
  intro t
  by_cases ht : t < l.length * 3
  · have hk : t / 3 < l.length := by omega
    have h1 := flatN_get l (t / 3) (t % 3) l[t / 3] (List.getElem?_eq_getElem hk) (by omega)
    rw [show t / 3 * 3 + t % 3 = t by omega] at h1
    rw [h1]
    have h2 := get_flatK encN 3 l.toArray t (by simpa using ht)
    have h3 : t < (flatK encN 3 l.toArray).toList.length := by simpa using ht
    rw [List.getElem?_eq_getElem h3]
    rw [getElem!_pos _ t (by simpa using ht)] at h2
    rw [Array.getElem_toList, h2]
    have h4 : l.toArray[t / 3]! = l[t / 3] := by rw [getElem!_pos _ _ (by simpa using hk)]; simp
    rw [h4]
    have h5 : t % 3 < (encN l[t / 3]).length := by simp [encN]; omega
    rw [List.getElem?_eq_getElem h5, getElem!_pos (encN l[t / 3]) (t % 3) h5]
  · rw [List.getElem?_eq_none (by simp; omega), List.getElem?_eq_none (by rw [flatN_len]; omega)]

/-- Behind this address lie the names l. -/
def Rn (w : World) (b off : Nat) (l : List Nm) : Prop := ∀ j v, (flatN l)[j]? = some v → w.cell? ⟨b, off + j, none⟩ = some v
theorem Rn.at {w : World} {b off : Nat} {l : List Nm} (h : Rn w b off l) {k : Nat} {x : Nm} (hx : l[k]? = some x) : w.cell? ⟨b, off + k * 3, none⟩ = some (.int .i64 x.1) ∧ w.cell? ⟨b, off + k * 3 + 1, none⟩ = some (.string x.2.1) ∧ w.cell? ⟨b, off + k * 3 + 2, none⟩ = some (.int .i64 x.2.2) :=
  ⟨h (k * 3) _ (flatN_get l k 0 x hx (by omega)), h (k * 3 + 1) _ (flatN_get l k 1 x hx (by omega)), h (k * 3 + 2) _ (flatN_get l k 2 x hx (by omega))⟩
theorem Rn.below {w w' : World} {b off : Nat} {l : List Nm} {B : Nat} (h : Rn w b off l) (hb : Below B w w') (hB : b < B) : Rn w' b off l := fun j v hj => (hb.cell hB).trans (h j v hj)
theorem Rn.take {w : World} {b off : Nat} {l : List Nm} (h : Rn w b off l) (n : Nat) : Rn w b off (l.take n) := fun j v hj => h j v (by
  have : flatN l = flatN (l.take n) ++ flatN (l.drop n) := by rw [← flatN_app, List.take_append_drop]
  rw [this, List.getElem?_append_left (List.getElem?_eq_some_iff.1 hj).1]; exact hj)

/-- The slice value v owns the names L, in a block from B on. -/
def On (w : World) (B : Nat) (v : Value) (L : List Nm) : Prop := w.ownsRow B 25 3 v L.length (flatN L)
theorem On.nil (w : World) (B : Nat) : On w B (.slice none 0 0) [] := World.ownsRow_nil _ _ _ _
theorem On.rn {w : World} {B g n cap : Nat} {L : List Nm} (h : On w B (.slice (some ⟨g, 0, none⟩) n cap) L) : Rn w g 0 L := fun j v hj => by
  have := World.ownsRow.cells h (g := g) rfl j v hj
  rw [add_lit] at this
  exact this
theorem On.only {w w' : World} {B : Nat} {v : Value} {L : List Nm} {D : Nat → Prop} (h : On w B v L) (ho : Only D w w') (hv : ∀ k, v.ownBlock = some k → ¬ D k) : On w' B v L := ho.row h hv
theorem On.below {w w' : World} {B : Nat} {v : Value} {L : List Nm} (h : On w B v L) (hb : Below w.heap.size w w') : On w' B v L := h.only (Only.ofBelow hb) (fun _ _ d => d.elim)
theorem On.shape {w : World} {B : Nat} {v : Value} {L : List Nm} (h : On w B v L) : (v = .slice none 0 0 ∧ L = []) ∨ ∃ g cap, v = .slice (some ⟨g, 0, none⟩) L.length cap ∧ B ≤ g ∧ g < w.heap.size ∧ L.length ≤ cap := by
  have hlt := World.ownsRow.lt h
  rcases h.2 with ⟨rfl, hn⟩ | ⟨g, cap, cur, rfl, hb, hg, hnc, rest⟩
  · exact .inl ⟨rfl, List.eq_nil_of_length_eq_zero hn⟩
  · exact .inr ⟨g, cap, rfl, hb, (hlt g rfl).2, hnc⟩

/-- A world behind the sort. -/
theorem On.sorted {W : World} {B g cap : Nat} {L L' : List Nm} (h : On W B (.slice (some ⟨g, 0, none⟩) L.length cap) L) (hL : L'.length = L.length) (n : Nat) (os : Array Obj) : On (sortWorldK encN 3 W g 0 n L'.toArray os) B (.slice (some ⟨g, 0, none⟩) L.length cap) L' ∧ Below B W (sortWorldK encN 3 W g 0 n L'.toArray os) := by
  have hlt := (World.ownsRow.lt h g rfl).2
  rcases h.2 with ⟨h1, _⟩ | ⟨g', cap', cur, e, hb, hg, hnc, hcm, hcs, htk⟩
  · cases h1
  · injection e with e1 e2 e3
    injection e1 with e1
    injection e1 with e1 _ _
    subst e1 e3
    have hF : (flatK encN 3 L'.toArray).size = L.length * 3 := by simp [hL]
    have hheap : (sortWorldK encN 3 W g 0 n L'.toArray os).heap = W.heap.modify g (onCells (putCells id 0 (flatK encN 3 L'.toArray))) ++ os := rfl
    refine ⟨⟨by rw [flatN_len], .inr ⟨g, cap, putCells id 0 (flatK encN 3 L'.toArray) cur, by rw [hL], hb, ?_, by rw [hL]; exact hnc, hcm, by simp [putCells, hcs], ?_⟩⟩, ⟨rfl, rfl, rfl, ?_, ?_⟩⟩
    · rw [hheap, Array.getElem?_append_left (by simpa using hlt), Array.getElem?_modify, if_pos rfl, hg]; rfl
    · rw [← flatK_N, hL]
      apply List.ext_getElem?
      intro j
      by_cases hj : j < L.length * 3
      · have hjc : j < cur.size := by rw [hcs]; have := Nat.mul_le_mul_right 3 hnc; omega
        rw [List.getElem?_take, if_pos hj]
        have h3 : j < (flatK encN 3 L'.toArray).toList.length := by rw [Array.length_toList, hF]; exact hj
        rw [List.getElem?_eq_getElem h3, Array.getElem?_toList]
        rw [Array.getElem?_eq_getElem (by simpa [putCells] using hjc)]
        simp only [putCells, Array.getElem_mapIdx, Nat.zero_le, true_and, Nat.zero_add, hF, hj, if_true, Nat.sub_zero, id]
        rw [getElem!_pos _ j (by rw [hF]; exact hj)]
        simp
      · rw [List.getElem?_take, if_neg hj, List.getElem?_eq_none (by rw [Array.length_toList, hF]; omega)]
    · rw [hheap]; simp
    · intro k hk
      rw [hheap, Array.getElem?_append_left (by simp; omega), Array.getElem?_modify, if_neg (by omega)]

/-- The order of names. -/
def cfN (a b : Nm) : Int := cmpS 0 a.1 a.2.1 a.2.2 0 0 b.1 b.2.1 b.2.2 0
theorem cfN_lex (a b : Nm) : cfN a b = lex (lex cmpI cmpB) cmpI ((a.1, a.2.1), a.2.2) ((b.1, b.2.1), b.2.2) := by
  unfold cfN; rw [cmp_lexN]; rfl
theorem ord_N : Ord cfN := by
  have h := (ord_I.lex ord_B).lex ord_I
  refine ⟨fun a b => ?_, fun a b => ?_, fun a b he => ?_, fun a b c h1 h2 => ?_⟩
  · rw [cfN_lex]; exact h.range _ _
  · rw [cfN_lex, cfN_lex]; exact h.anti _ _
  · rw [cfN_lex] at he
    have := h.eq _ _ he
    obtain ⟨a1, a2, a3⟩ := a
    obtain ⟨b1, b2, b3⟩ := b
    simp at this
    obtain ⟨⟨rfl, rfl⟩, rfl⟩ := this
    rfl
  · rw [cfN_lex] at h1 h2 ⊢; exact h.trans _ _ _ h1 h2
theorem lt_iff (a b : Nm) : ltOf cfN a b = true ↔ cfN a b = -1 := by
  have := ord_N.range a b
  unfold ltOf
  simp
  omega
theorem lt_no (a b : Nm) : ltOf cfN a b = false ↔ cfN a b ≠ -1 := by
  rw [Ne, ← lt_iff]; simp
theorem swo_N : SWO (ltOf cfN) where
  irrefl x := by rw [lt_no, ord_N.refl]; decide
  trans x y z h1 h2 := by rw [lt_iff] at *; exact ord_N.trans _ _ _ h1 h2
  ntrans x y z h1 h2 := by
    rw [lt_no] at *
    intro h3
    rcases ord_N.range x y with h | h | h
    · exact h1 h
    · rw [ord_N.eq _ _ h] at h3; exact h2 h3
    · have : cfN y x = -1 := by rw [ord_N.anti, h]
      exact h2 (ord_N.trans _ _ _ this h3)
theorem part_N (x y : Nm) (h1 : ltOf cfN x y = false) (h2 : ltOf cfN y x = false) : x = y := by
  rw [lt_no] at h1 h2
  rw [ord_N.anti] at h2
  apply ord_N.eq
  have := ord_N.range x y
  omega
/-- Names in order. -/
def sortN (L : List Nm) : List Nm := L.mergeSort fun x y => !(ltOf cfN) y x
theorem sortN_len (L : List Nm) : (sortN L).length = L.length := by simp [sortN]

theorem sort_any {W : World} {B g cap : Nat} {L : List Nm} (h : On W B (.slice (some ⟨g, 0, none⟩) L.length cap) L) (hl : L.length ≤ 100000) : Calls Tryz.prog 104 #[.slice (some ⟨g, 0, none⟩) L.length cap, .func (.func 52) #[] #[]] W fun e w' => e = .returned (.tuple #[]) ∧ On w' B (.slice (some ⟨g, 0, none⟩) L.length cap) (sortN L) ∧ Below B W w' := by
  have hlt := (World.ownsRow.lt h g rfl).2
  have eg : ∀ args w, (callFunc 52 args).run Tryz.prog w = .ok (.enter 52 args) w := enters_of Tryz.func52 (by kernel_rfl) rfl
  have hc : CmpLays Tryz.prog 52 #[] encN 3 cfN g 0 L.toArray.size W := fun _ _ _ _ x y => (cmpN_grow x.1 x.2.1 x.2.2 y.1 y.2.1 y.2.2 _).mono fun _ _ ⟨he, hw⟩ => ⟨he, hw.grows⟩
  have hH : HoldsK encN 3 W g 0 L.toArray := by
    intro j hj
    have hj' : j < (flatN L).length := by rw [← flatK_N]; simpa using hj
    have hv : (flatN L)[j]? = some ((flatK encN 3 L.toArray)[j]!) := by
      rw [← flatK_N, Array.getElem?_toList, Array.getElem?_eq_getElem hj, getElem!_pos _ j hj]
    refine ⟨h.rn j _ hv, ?_⟩
    rcases h.2 with ⟨h1, _⟩ | ⟨g', cap', cur, e, hb, hg, _⟩
    · cases h1
    · injection e with e1 e2 e3
      injection e1 with e1
      injection e1 with e1 _ _
      subst e1
      exact frozen_of_row W g _ _ _ hg
  have hs := AnyQ.slices_SortFunc_total Tryz.sortNames 3 Tryz.isAgg25 Tryz.sizeOf25 encN (fun _ => rfl) (fun x v hv => by simp [encN] at hv; rcases hv with rfl | rfl | rfl <;> rfl) cfN swo_N 52 #[] g 0 cap L.toArray W eg hc hH hlt (by simp; omega) part_N
  simp only [List.size_toArray] at hs
  change Calls Tryz.prog 104 _ _ _ at hs
  refine hs.mono ?_
  rintro e w' ⟨he, n, os, rfl⟩
  exact ⟨he, h.sorted (sortN_len L) n os⟩

theorem clone_names (b off c : Nat) (L : List Nm) (w : World) (h : Rn w b off L) (hl : L.length ≤ 100000) : Calls Tryz.prog 103 #[.slice (some ⟨b, off, none⟩) L.length c] w fun e w' => ∃ g cap, e = .returned (.slice (some ⟨g, 0, none⟩) L.length cap) ∧ On w' w.heap.size (.slice (some ⟨g, 0, none⟩) L.length cap) L ∧ Below w.heap.size w w' := by
  have hz : (Tryz.prog.info? 25).map (fun i => (i.zero, i.size, i.bytes)) = some (some (.agg #[.int .i64 0, .string ⟨#[]⟩, .int .i64 0]), 3, 32) := by kernel_rfl
  obtain ⟨i0, hi⟩ : ∃ i0, Tryz.prog.info? 25 = some i0 := by
    cases hi : Tryz.prog.info? 25 with
    | none => rw [hi] at hz; cases hz
    | some i => exact ⟨i, rfl⟩
  rw [hi] at hz
  simp only [Option.map_some, Option.some.injEq, Prod.mk.injEq] at hz
  have hc := AnyE.slices_Clone Tryz.cloneNames i0 _ 3 32 hi hz.1 hz.2.1 hz.2.2 rfl (by decide) Tryz.sizeOf25 b off L.length c (flatN L) w (flatN_len L) (by unfold maxLen; omega) (by omega) h (flatN_one L)
  change Calls Tryz.prog 103 _ _ _ at hc
  refine hc.mono ?_
  rintro e w' ⟨v, he, ho, hv, hb⟩
  rcases On.shape (L := L) ho with ⟨h1, _⟩ | ⟨g, cap, rfl, _⟩
  · exact (hv h1).elim
  · exact ⟨g, cap, he, ho, hb⟩
end Go.Proofs.YtkjabnpniingnaaGreatDoor
