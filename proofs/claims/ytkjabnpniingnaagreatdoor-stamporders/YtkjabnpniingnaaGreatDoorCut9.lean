/-
  CUT9: the document's cut of a text at its dots; texts in a row.
-/
import Derived.Test.YtkjabnpniingnaaGreatDoorDots
import Derived.Deep.QuietTactic
import Derived.BigQuiet
namespace Go.Proofs.YtkjabnpniingnaaGreatDoor
open Go.RowKit Go.Shelf
set_option linter.unusedSimpArgs false

/-- Behind this address lie the texts l. -/
def Rs (w : World) (ao : Option Addr) (l : List ByteArray) : Prop :=
  (ao = none → l = []) ∧ ∀ a, ao = some a → ∀ j s, l[j]? = some s → w.cell? (a.add j) = some (.string s)

theorem Rs.at {w : World} {ao : Option Addr} {l : List ByteArray} (h : Rs w ao l) {k : Nat} {s : ByteArray} (hs : l[k]? = some s) : ∃ ab off, ao = some ⟨ab, off, none⟩ ∧ w.cell? ⟨ab, off + k, none⟩ = some (.string s) := by
  cases ao with
  | none => have := h.1 rfl; subst this; simp at hs
  | some a =>
    obtain ⟨ab, off, sp⟩ := a
    have hl : 0 < l.length := by have := (List.getElem?_eq_some_iff.1 hs).1; omega
    have h0 := h.2 _ rfl 0 l[0] (List.getElem?_eq_getElem hl)
    simp only [Addr.add, if_true] at h0
    have e : sp = none := World.cell?_spot h0
    subst e
    have hk := h.2 _ rfl k s hs
    rw [add_lit] at hk
    exact ⟨ab, off, rfl, hk⟩

theorem Rs.only {C : Nat → Prop} {w w' : World} {ao : Option Addr} {l : List ByteArray} (hr : Rs w ao l) (h : Only C w w') (hC : ∀ a, ao = some a → ¬ C a.block) : Rs w' ao l :=
  ⟨hr.1, fun a ha j u hj => h.cell (hr.2 a ha j u hj) (by
    have : (a.add j).block = a.block := by unfold Addr.add; split <;> rfl
    rw [this]; exact hC a ha)⟩

theorem Rs.below {w w' : World} {ao : Option Addr} {l : List ByteArray} (h : Rs w ao l) (hb : Below w.heap.size w w') : Rs w' ao l := h.only (Only.ofBelow hb) (fun _ _ d => d.elim)

theorem Rs.drew {w : World} {ao : Option Addr} {l : List ByteArray} (h : Rs w ao l) : Rs w.drew ao l := h.below (Below.refl _ w).drew

theorem Rs.nil (w : World) (ao : Option Addr) : Rs w ao [] := ⟨fun _ => rfl, by simp⟩

/-- The slice value v owns the texts L, in a block from B on. -/
def Os (w : World) (B : Nat) (v : Value) (L : List ByteArray) : Prop := w.ownsRow B 9 1 v L.length (L.map Value.string)

theorem Os.shape {w : World} {B : Nat} {v : Value} {L : List ByteArray} (h : Os w B v L) : ∃ ao c, v = .slice ao L.length c ∧ Rs w ao L ∧ (∀ a, ao = some a → B ≤ a.block ∧ a.block < w.heap.size) ∧ (ao = none → c = 0) ∧ L.length ≤ c := by
  have hlt := World.ownsRow.lt h
  have hcells := fun g => World.ownsRow.cells h (g := g)
  rcases h.2 with ⟨rfl, hn⟩ | ⟨g, cap, cur, rfl, hb, hg, hnc, rest⟩
  · exact ⟨none, 0, by rw [hn], ⟨fun _ => List.eq_nil_of_length_eq_zero hn, by simp⟩, by simp, fun _ => rfl, by omega⟩
  · refine ⟨some ⟨g, 0, none⟩, cap, rfl, ⟨by simp, ?_⟩, ?_, by simp, hnc⟩
    · intro a ha j s hj
      cases ha
      exact hcells g rfl j (.string s) (by rw [List.getElem?_map, hj]; rfl)
    · intro a ha
      cases ha
      exact hlt g rfl

theorem Os.only {w w' : World} {B : Nat} {v : Value} {L : List ByteArray} {D : Nat → Prop} (h : Os w B v L) (ho : Only D w w') (hv : ∀ k, v.ownBlock = some k → ¬ D k) : Os w' B v L := ho.row h hv

theorem Os.below {w w' : World} {B : Nat} {v : Value} {L : List ByteArray} (h : Os w B v L) (hb : Below w.heap.size w w') : Os w' B v L := h.only (Only.ofBelow hb) (fun _ _ d => d.elim)

theorem Os.nil (w : World) (B : Nat) : Os w B (.slice none 0 0) [] := World.ownsRow_nil _ _ _ _

theorem Tryz.info9 : (Tryz.prog.info? 9).map (fun i => (i.zero, i.size, i.bytes)) = some (some (.string ⟨#[]⟩), 1, 16) := by kernel_rfl
def keysOf (l : List (List UInt8)) : List ByteArray := l.map (fun k => ⟨k.toArray⟩)

/-- The pieces of a text between its slashes, behind cur. -/
def pieces : List UInt8 → List UInt8 → List (List UInt8)
  | cur, [] => [cur]
  | cur, b :: t => if b = 46 then cur :: pieces [] t else pieces (cur ++ [b]) t

theorem ext_mid (s : ByteArray) (a i : Nat) : s.extract a i = ⟨((s.data.toList.drop a).take (i - a)).toArray⟩ := by
  apply ByteArray.ext
  apply Array.toList_inj.1
  simp [ByteArray.data_extract, List.drop_take]

theorem keysOf_snoc (acc : List (List UInt8)) (k : List UInt8) : keysOf (acc ++ [k]) = keysOf acc ++ [⟨k.toArray⟩] := by simp [keysOf]

theorem keysOf_length (acc : List (List UInt8)) : (keysOf acc).length = acc.length := by simp [keysOf]

theorem cur_next (s : ByteArray) (a i : Nat) (h : a ≤ i) (hi : i < s.size) : (s.data.toList.drop a).take (i + 1 - a) = (s.data.toList.drop a).take (i - a) ++ [s[i]'hi] := by
  have hl : s.data.toList.length = s.size := (Lib.size_eq s).symm
  rw [show i + 1 - a = i - a + 1 by omega, List.take_add_one, List.getElem?_drop, show a + (i - a) = i by omega, List.getElem?_eq_getElem (by omega)]
  simp only [Option.toList_some]
  congr 2

theorem rune1_cons (s : ByteArray) (pos : Nat) (h : pos < s.size) : ∃ t, s.data.toList.drop (pos + 1) = t ∧ s.data.toList.drop pos = (s[pos]'h) :: t ∧ t.length + 1 = s.size - pos := by
  have hl : s.data.toList.length = s.size := (Lib.size_eq s).symm
  have hx : s.data.toList[pos]'(by omega) = s[pos]'h := by rw [← getD_byte s pos h]; simp [List.getD, List.getElem?_eq_getElem (show pos < s.data.toList.length by omega)]
  exact ⟨_, rfl, by rw [List.drop_eq_getElem_cons (by omega), hx], by rw [List.length_drop]; omega⟩

theorem splitD_ne (l : List UInt8) : splitD l ≠ [] := by
  cases l with
  | nil => simp [splitD]
  | cons c r => rw [splitD]; split <;> (try split) <;> simp
theorem pieces_split : ∀ (l cur : List UInt8), ∃ h t, splitD l = h :: t ∧ pieces cur l = (cur ++ h) :: t
  | [], cur => ⟨[], [], rfl, by simp [pieces]⟩
  | c :: r, cur => by
    by_cases hc : c = 46
    · subst hc
      obtain ⟨h, t, e1, e2⟩ := pieces_split r []
      refine ⟨[], splitD r, by simp [splitD], ?_⟩
      rw [pieces, if_pos rfl, e2, e1]
      simp
    · obtain ⟨h, t, e1, e2⟩ := pieces_split r (cur ++ [c])
      refine ⟨c :: h, t, by rw [splitD, if_neg hc, e1], ?_⟩
      rw [pieces, if_neg hc, e2]
      simp
theorem pieces_nil (l : List UInt8) : pieces [] l = splitD l := by
  obtain ⟨h, t, e1, e2⟩ := pieces_split l []
  rw [e2, e1]; rfl

set_option maxHeartbeats 2000000 in
set_option maxRecDepth 100000 in
/-- The document's cut. -/
theorem cut9_any (s : ByteArray) (w : World) (hs : s.size ≤ 1000000) : Calls Tryz.prog 93 #[.string s] w fun e w' => ∃ v, e = .returned v ∧ Os w' w.heap.size v (pcs s) ∧ Below w.heap.size w w' := by
  obtain ⟨i0, hi, hz0, hz1, hz2⟩ := info_parts Tryz.info9
  have hpc : pcs s = keysOf ((splitD s.data.toList).take 9) := rfl
  rw [hpc, ← pieces_nil]
  obtain ⟨F, hF⟩ : ∃ F, F = pieces [] s.data.toList := ⟨_, rfl⟩
  rw [← hF]
  have HF := hide hF
  clear hF hpc
  go_enter Tryz.func93, Tryz.ntmps93
  go_wp2
  go_loopw [3, 4, 5] (fun v4 v5 v6 wr => ∃ (i at' : Nat) (acc : List (List UInt8)), v5 = .int .i64 at' ∧ v6 = .int .i64 i ∧ i ≤ s.size + 1 ∧ at' ≤ i + 1 ∧ acc.length ≤ 9 ∧ Hid (Os wr w.heap.size v4 (keysOf acc)) ∧ Hid ((i ≤ s.size ∧ at' ≤ i ∧ acc ++ pieces ((s.data.toList.drop at').take (i - at')) (s.data.toList.drop i) = F) ∨ (i = s.size + 1 ∧ acc = F)) ∧ Hid (Below w.heap.size w wr)) (fun _ _ v6 _ => s.size + 1 - (intOf v6).toNat)
  case atStart => exact ⟨0, 0, [], rfl, rfl, by omega, by omega, by simp, hide (Os.nil _ _), hide (.inl ⟨by omega, by omega, by rw [HF.out]; simp⟩), hide (Below.refl _ _)⟩
  case round =>
    obtain ⟨i, at', acc, rfl, rfl, his, hat, hacc, HO, HP, HW⟩ := hrel
    obtain ⟨ao, cc, hv4, -, -, -, -⟩ := HO.out.shape
    rw [keysOf_length] at hv4
    subst hv4
    have hsz := HW.out.size
    by_cases hgo : i ≤ s.size ∧ acc.length < 9
    · obtain ⟨g1, g2⟩ := hgo
      have z1 : (i : Int) ≤ (s.size : Int) := by omega
      have z2 : (acc.length : Int) < 9 := by omega
      obtain ⟨-, hai, hpc⟩ : i ≤ s.size ∧ at' ≤ i ∧ acc ++ pieces ((s.data.toList.drop at').take (i - at')) (s.data.toList.drop i) = F := by
        rcases HP.out with h | h
        · exact h
        · omega
      have a1 : (0 : Int) ≤ (at' : Int) := by omega
      have a2 : (at' : Int) ≤ (i : Int) := by omega
      have hext := ext_mid s at' i
      obtain ⟨cur, hcur⟩ : ∃ cur, cur = (s.data.toList.drop at').take (i - at') := ⟨_, rfl⟩
      rw [← hcur] at hext hpc
      have HX := hide (And.intro hpc hcur)
      clear hpc hcur HP
      have hO := HO.out
      have q1 : ∀ (j : Nat) (u : Value), [Value.string ⟨cur.toArray⟩][j]? = some u → (wr.alloc (.cells #[.string ⟨cur.toArray⟩] 9)).cell? ((⟨wr.heap.size, 0, none⟩ : Addr).add j) = some u := fun j u hj => by
        match j, hj with
        | 0, hj => simp at hj; subst hj; simp [Addr.add]
      have HQ := hide (And.intro q1 (show (keysOf acc).length + 1 ≤ maxLen ∧ ((keysOf acc).length + 1) * 16 ≤ 140737488355328 by unfold maxLen; rw [keysOf_length]; omega))
      clear q1
      by_cases hend : i = s.size
      · have hE : acc ++ [cur] = F := by
          have := HX.out.1
          rw [List.drop_eq_nil_of_le (by have := Lib.size_eq s; omega), pieces] at this
          exact this
        have HE := hide hE
        clear hE
        subst hend
        go_wp2_with (at_builtin; refine wpList_append_own _ rfl _ _ 120 rfl w.heap.size 9 i0 (.string ⟨#[]⟩) 1 16 Tryz.underlying120 hi hz0 hz1 hz2 rfl (by decide) _ _ _ rfl (World.ownsRow.alloc hO (.cells #[.string ⟨cur.toArray⟩] 9)) ⟨wr.heap.size, 0, none⟩ 1 1 [.string ⟨cur.toArray⟩] rfl rfl HQ.out.1 (fun u hu => by simp at hu; subst hu; rfl) HQ.out.2.1 HQ.out.2.2 (Nat.le_trans hsz (by simp)) ?_)
        intro v2 w9 hown9 hg9 _
        have hO9 : Os w9 w.heap.size v2 (keysOf (acc ++ [cur])) := by
          rw [keysOf_snoc]
          unfold Os
          rw [List.length_append, List.map_append]
          exact hown9
        have hB9 : Below w.heap.size w w9 := (HW.out.alloc hsz _).grown hg9 (by simp; omega) (fun j hj => (World.ownsRow.lt hO j hj).1)
        obtain ⟨a9, c9, hv9, -, -, -, -⟩ := hO9.shape
        rw [keysOf_length] at hv9
        subst hv9
        have H9 := hide (And.intro hO9 hB9)
        clear hO9 hB9 hown9 hg9 hO
        go_wp2
        go_roundw
        case rel => exact ⟨s.size + 1, s.size + 1, acc ++ [cur], by go_num, by go_num, by omega, by omega, by simp; omega, hide H9.out.1, hide (.inr ⟨rfl, HE.out⟩), hide H9.out.2⟩
        case measure => simp [intOf]
      · have hlt : i < s.size := by omega
        have z3 : ((i : Int) == (s.size : Int)) = false := by rw [beq_eq_false_iff_ne]; omega
        obtain ⟨X, hX, x0, x1, ix⟩ := at_string s i hlt
        obtain ⟨tl, hu, he, hq⟩ := rune1_cons s i hlt
        by_cases g47 : X = 46
        · subst g47
          have hs47 : s[i]'hlt = 46 := by
            apply UInt8.toNat_inj.1
            have : (46 : UInt8).toNat = 46 := rfl
            omega
          have hE : (acc ++ [cur]) ++ pieces [] (s.data.toList.drop (i + 1)) = F := by
            have := HX.out.1
            rw [he, hs47, pieces, if_pos rfl, ← hu] at this
            rw [← this]
            simp
          have HE := hide hE
          clear hE hs47 hX hu he hq
          go_wp2_with (at_builtin; refine wpList_append_own _ rfl _ _ 120 rfl w.heap.size 9 i0 (.string ⟨#[]⟩) 1 16 Tryz.underlying120 hi hz0 hz1 hz2 rfl (by decide) _ _ _ rfl (World.ownsRow.alloc hO (.cells #[.string ⟨cur.toArray⟩] 9)) ⟨wr.heap.size, 0, none⟩ 1 1 [.string ⟨cur.toArray⟩] rfl rfl HQ.out.1 (fun u hu => by simp at hu; subst hu; rfl) HQ.out.2.1 HQ.out.2.2 (Nat.le_trans hsz (by simp)) ?_)
          intro v2 w9 hown9 hg9 _
          have hO9 : Os w9 w.heap.size v2 (keysOf (acc ++ [cur])) := by
            rw [keysOf_snoc]
            unfold Os
            rw [List.length_append, List.map_append]
            exact hown9
          have hB9 : Below w.heap.size w w9 := (HW.out.alloc hsz _).grown hg9 (by simp; omega) (fun j hj => (World.ownsRow.lt hO j hj).1)
          obtain ⟨a9, c9, hv9, -, -, -, -⟩ := hO9.shape
          rw [keysOf_length] at hv9
          subst hv9
          have H9 := hide (And.intro hO9 hB9)
          clear hO9 hB9 hown9 hg9 hO
          go_wp2
          go_roundw
          case rel => exact ⟨i + 1, i + 1, acc ++ [cur], by go_num, by go_num, by omega, by omega, by simp; omega, hide H9.out.1, hide (.inl ⟨by omega, by omega, by rw [Nat.sub_self, List.take_zero]; exact HE.out⟩), hide H9.out.2⟩
          case measure => simp [intOf]; omega
        · have g48 : (X == 46) = false := by simpa using g47
          have hs47 : s[i]'hlt ≠ 46 := fun e => by
            apply g47
            rw [hX, e]
            rfl
          have hE : acc ++ pieces ((s.data.toList.drop at').take (i + 1 - at')) (s.data.toList.drop (i + 1)) = F := by
            have := HX.out.1
            rw [he, pieces, if_neg hs47, ← hu, HX.out.2] at this
            rw [cur_next s at' i hai hlt]
            exact this
          have HE := hide hE
          clear hE hs47 hX hu he hq
          go_wp2
          go_roundw
          case rel => exact ⟨i + 1, at', acc, rfl, by go_num, by omega, by omega, by omega, hide HO.out, hide (.inl ⟨by omega, by omega, HE.out⟩), hide HW.out⟩
          case measure => simp [intOf]; omega
    · have hK : F.take 9 = acc := by
        rcases HP.out with ⟨g1, g2, g3⟩ | ⟨g1, g2⟩
        · have h7 : acc.length = 9 := by omega
          rw [← g3, List.take_append_of_le_length (by omega), List.take_of_length_le (by omega)]
        · rw [← g2, List.take_of_length_le (by omega)]
      have HK := hide hK
      clear hK
      have hor : ¬ (i : Int) ≤ (s.size : Int) ∨ ((i : Int) ≤ (s.size : Int) ∧ ¬ (acc.length : Int) < 9) := by omega
      clear hgo
      rcases hor with z1 | ⟨z1, z2⟩
      all_goals
        go_wp2
        go_ret
        refine ⟨_, rfl, ?_, HW.out⟩
        rw [HK.out]; exact HO.out
theorem read_any (s : ByteArray) (w : World) (hs : s.size ≤ 1000000) (hE : EnvE w) : Calls Tryz.prog 94 #[.string s] w fun e w' => e = .returned (.int .i64 (guessI s)) ∧ Below w.heap.size w w' := by
  have h := parseInt_any s w hs hE
  generalize guessI s = G at h ⊢
  go_enter Tryz.func94, Tryz.ntmps94
  go_wp2_with (go_at_call 119; refine h.mono ?_; rintro e w1 ⟨⟨z, rfl⟩, b1⟩)
  go_ret
  exact ⟨rfl, b1⟩
end Go.Proofs.YtkjabnpniingnaaGreatDoor
