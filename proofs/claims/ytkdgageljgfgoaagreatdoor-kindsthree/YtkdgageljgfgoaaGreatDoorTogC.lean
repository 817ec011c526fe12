/-
  KindsTogether, plainly: what two make of one value, run together.
  KindsTogether, plainly: the numbers, and the three values.
  KindsTogether: what its calls of Three answer.
-/
import Derived.Test.YtkdgageljgfgoaaGreatDoorDoneW
namespace Go.Proofs.YtkdgageljgfgoaaGreatDoor
open Go.RowKit

/-- The elements of a value that steps were done to: what was there, and what the steps brought. -/
theorem doneF_mem {gen : Int} {label : ByteArray} {v : Int × Int × List El} {ops : List OpM} : ∀ k, (doneF gen label v ops k).1 = v.1 ∧ ∀ x ∈ (doneF gen label v ops k).2.2, x ∈ v.2.2 ∨ x.1.2.2.1 = label
  | 0 => ⟨rfl, fun x hx => .inl hx⟩
  | k + 1 => by
    obtain ⟨i1, i2⟩ := doneF_mem (gen := gen) (label := label) (v := v) (ops := ops) k
    rw [doneF]
    split
    · rename_i o ho
      unfold stepD
      split
      · rename_i h0
        refine ⟨(apply_val rfl h0).1.trans i1, fun x hx => ?_⟩
        dsimp only at hx
        unfold appD applyV at hx h0
        split at hx
        · simp at hx
        · split at hx
          · simp at hx
          · dsimp only at hx
            have hm : x ∈ (doneF gen label v ops k).2.2 ∨ x = (stampD gen label k, o.tx) := by
              unfold changeL at hx
              split at hx
              · exact .inr (List.mem_singleton.1 hx)
              split at hx
              · rcases List.mem_append.1 hx with h | h
                · exact .inl h
                · exact .inr (List.mem_singleton.1 h)
              split at hx
              · unfold keepL at hx; exact .inl (List.mem_filter.1 hx).1
              split at hx
              · exact .inl (List.mem_of_mem_drop hx)
              · exact .inl hx
            rcases hm with h | h
            · exact i2 x h
            · subst h; exact .inr rfl
      · exact ⟨i1, i2⟩
    · exact ⟨i1, i2⟩
theorem up_one {l : List El} (h : UpE l) {x y : El} (hx : x ∈ l) (hy : y ∈ l) (e : x.1 = y.1) : x = y := by
  obtain ⟨i, hi, rfl⟩ := List.getElem_of_mem hx
  obtain ⟨j, hj, rfl⟩ := List.getElem_of_mem hy
  rcases Nat.lt_trichotomy i j with h1 | h1 | h1
  · exact absurd e (ordS_T.ne (List.pairwise_iff_getElem.1 h i j hi hj h1))
  · subst h1; rfl
  · exact absurd e.symm (ordS_T.ne (List.pairwise_iff_getElem.1 h j i hj hi h1))
theorem tog_says {base a b : List El} (ua : UpE a) (ub : UpE b) : UpE (togL base a b) ∧ ∀ z, z ∈ togL base a b ↔ Rise.Stays Prod.fst (fun s => standsB s b) (fun s => standsB s base) a b z :=
  Rise.run_says ordS_T _ _ _ a b (Nat.le_refl _) ua ub (fun _ _ => standsB_iff _ _)
/-- What two make of one base. -/
structure Two (base a b : List El) : Prop where
  uo : UpE base
  ua : UpE a
  ub : UpE b
  ab : ∀ x ∈ a, ∀ y ∈ b, x.1 = y.1 → x = y
  oa : ∀ x ∈ base, ∀ y ∈ a, x.1 = y.1 → x = y
  ob : ∀ x ∈ base, ∀ y ∈ b, x.1 = y.1 → x = y
theorem Two.swap {base a b : List El} (h : Two base a b) : togL base a b = togL base b a := Rise.run_swap ordS_T h.ua h.ub (fun s => standsB_iff s b) (fun s => standsB_iff s a) h.ab
theorem Two.left {base a b : List El} (h : Two base a b) : togL base a base = a := Rise.run_left ordS_T h.ua h.uo (fun s => standsB_iff s base)
theorem Two.right {base a b : List El} (h : Two base a b) : togL base base b = b := Rise.run_right ordS_T h.uo h.ub (fun s => standsB_iff s base) (fun s => standsB_iff s b) h.ob
theorem Two.gone {base a b : List El} (h : Two base a b) {y : El} (hy : y ∈ togL base a b) (ho : y ∈ base) : y ∈ a ∧ y ∈ b := by
  have hs : standsB y.1 base = true := (standsB_iff _ _).2 ⟨y, ho, rfl⟩
  rcases ((tog_says h.ua h.ub).2 y).1 hy with ⟨m, c⟩ | ⟨m, _, c⟩
  · simp only [hs, Bool.not_true, Bool.or_false] at c
    obtain ⟨z, hz, e⟩ := (standsB_iff _ _).1 c
    have := h.ab y m z hz e.symm
    subst this
    exact ⟨m, hz⟩
  · simp only [hs] at c
    cases c
theorem Two.new {base a b : List El} (h : Two base a b) {y : El} (hy : y ∈ a) (ho : y ∉ base) : y ∈ togL base a b := by
  refine ((tog_says h.ua h.ub).2 y).2 (.inl ⟨hy, ?_⟩)
  have hs : standsB y.1 base = false := by
    rw [Bool.eq_false_iff, Ne, standsB_iff]
    rintro ⟨z, hz, e⟩
    exact ho (h.oa z hz y hy e ▸ hz)
  simp [hs]
theorem Two.may {base a b : List El} (h : Two base a b) (ha : mayB a = true) (hb : mayB b = true) : mayB (togL base a b) = true := by
  rw [mayB_all] at ha hb ⊢
  refine ⟨fun x hx => ?_, (tog_says h.ua h.ub).1⟩
  rcases ((tog_says h.ua h.ub).2 x).1 hx with ⟨m, _⟩ | ⟨m, _⟩
  · exact ha.1 x m
  · exact hb.1 x m
/-- What two series of steps make of what a first one made of nothing. -/
theorem two_done {k n : Int} {g0 ga gb : Int} {lo la lb : ByteArray} (hoa : lo ≠ la) (hob : lo ≠ lb) (hab : la ≠ lb) {opsO opsA opsB : List OpM} {i j q : Nat} (hv : valB k n [] = true) :
    Two (doneF g0 lo (k, n, []) opsO i).2.2 (doneF ga la (doneF g0 lo (k, n, []) opsO i) opsA j).2.2 (doneF gb lb (doneF g0 lo (k, n, []) opsO i) opsB q).2.2 := by
  have vo := (doneF_ok (gen := g0) (label := lo) (ops := opsO) (v := (k, n, [])) hv i).1
  have va := (doneF_ok (gen := ga) (label := la) (ops := opsA) vo j).1
  have vb := (doneF_ok (gen := gb) (label := lb) (ops := opsB) vo q).1
  have uo := valB_up vo
  have mo := (doneF_mem (gen := g0) (label := lo) (v := (k, n, [])) (ops := opsO) i).2
  have ma := (doneF_mem (gen := ga) (label := la) (v := doneF g0 lo (k, n, []) opsO i) (ops := opsA) j).2
  have mb := (doneF_mem (gen := gb) (label := lb) (v := doneF g0 lo (k, n, []) opsO i) (ops := opsB) q).2
  have lbl : ∀ x ∈ (doneF g0 lo (k, n, []) opsO i).2.2, x.1.2.2.1 = lo := fun x hx => by
    rcases mo x hx with h | h
    · simp at h
    · exact h
  refine ⟨uo, valB_up va, valB_up vb, fun x hx y hy e => ?_, fun x hx y hy e => ?_, fun x hx y hy e => ?_⟩
  · rcases ma x hx with h1 | h1
    · rcases mb y hy with h2 | h2
      · exact up_one uo h1 h2 e
      · exact absurd (by rw [← lbl x h1, e, h2] : lo = lb) hob
    · rcases mb y hy with h2 | h2
      · exact absurd (by rw [← lbl y h2, ← e, h1] : lo = la) hoa
      · exact absurd (by rw [← h1, e, h2] : la = lb) hab
  · rcases ma y hy with h1 | h1
    · exact up_one uo hx h1 e
    · exact absurd (by rw [← lbl x hx, e, h1] : lo = la) hoa
  · rcases mb y hy with h1 | h1
    · exact up_one uo hx h1 e
    · exact absurd (by rw [← lbl x hx, e, h1] : lo = lb) hob
end Go.Proofs.YtkdgageljgfgoaaGreatDoor
namespace Go.Proofs.YtkdgageljgfgoaaGreatDoor
open Go.RowKit

def I64 (n : Int) : Prop := -9223372036854775808 ≤ n ∧ n < 9223372036854775808
theorem i64_wrap (n : Int) : I64 (wrap64 n) := by unfold I64 wrap64; omega
theorem num_left {a o : Int} (h : I64 a) : wrap64 (wrap64 (a + o) - o) = a := by unfold I64 at h; unfold wrap64; omega
theorem num_right {b o : Int} (h : I64 b) : wrap64 (wrap64 (o + b) - o) = b := by unfold I64 at h; unfold wrap64; omega
theorem num_last (a b o : Int) : wrap64 (wrap64 (wrap64 (a + b) - o) - o) = wrap64 (wrap64 (wrap64 (a - o) + b) - o) := by unfold wrap64; omega
theorem doneF_i64 {gen : Int} {label : ByteArray} {v : Int × Int × List El} {ops : List OpM} (h : I64 v.2.1) : ∀ k, I64 (doneF gen label v ops k).2.1
  | 0 => h
  | k + 1 => by
    have ih := doneF_i64 (gen := gen) (label := label) (ops := ops) h k
    rw [doneF]
    split
    · unfold stepD
      split
      · dsimp only
        unfold appD applyV
        split
        · exact ⟨by decide, by decide⟩
        split
        · exact ⟨by decide, by decide⟩
        · exact i64_wrap _
      · exact ih
    · exact ih
/-- Three values of one kind that may be. -/
theorem three_good {k no na nb : Int} {base a b : List El} (ho : valB k no base = true) (ha : valB k na a = true) (hb : valB k nb b = true) : threeV k no base k na a k nb b = (k, wrap64 (wrap64 (na + nb) - no), togL base a b, 0) := by
  unfold threeV
  rw [if_neg (by simp [ho, ha, hb])]
theorem Two.val {k no na nb : Int} {base a b : List El} (h : Two base a b) (ho : valB k no base = true) (ha : valB k na a = true) (hb : valB k nb b = true) : valB k (wrap64 (wrap64 (na + nb) - no)) (togL base a b) = true := by
  unfold valB at ho ha hb ⊢
  by_cases hk : k = 1
  · rw [if_pos hk] at ho ha hb ⊢
    have ea : a = [] := List.eq_nil_of_length_eq_zero (by simpa using ha)
    have eb : b = [] := List.eq_nil_of_length_eq_zero (by simpa using hb)
    have : togL base a b = [] := by
      rw [List.eq_nil_iff_forall_not_mem]
      intro x hx
      rcases ((tog_says h.ua h.ub).2 x).1 hx with ⟨m, _⟩ | ⟨m, _⟩
      · rw [ea] at m; simp at m
      · rw [eb] at m; simp at m
    rw [this]; rfl
  · rw [if_neg hk] at ho ha hb ⊢
    simp only [Bool.and_eq_true] at ho ha hb ⊢
    have e1 : no = 0 := by simpa using ho.1.2
    have e2 : na = 0 := by simpa using ha.1.2
    have e3 : nb = 0 := by simpa using hb.1.2
    refine ⟨⟨ho.1.1, ?_⟩, h.may ha.2 hb.2⟩
    subst e1 e2 e3
    kernel_rfl
theorem togL_len (base a b : List El) : (togL base a b).length ≤ a.length + b.length := by
  unfold togL
  have : ∀ (n : Nat) (x y : List El), x.length + y.length ≤ n → (Rise.run cmpT Prod.fst (fun s => standsB s b) (fun s => standsB s base) x y).length ≤ x.length + y.length := by
    intro n
    induction n with
    | zero =>
      intro x y hn
      obtain ⟨rfl, rfl⟩ : x = [] ∧ y = [] := by constructor <;> (apply List.eq_nil_of_length_eq_zero; omega)
      simp [Rise.run]
    | succ n ih =>
      intro x y hn
      match x, y with
      | [], [] => simp [Rise.run]
      | [], y :: ys =>
        rw [Rise.run]
        have := ih [] ys (by simp at hn ⊢; omega)
        simp at this ⊢
        split <;> simp <;> omega
      | x :: xs, [] =>
        rw [Rise.run]
        have := ih xs [] (by simp at hn ⊢; omega)
        simp at this ⊢
        split <;> simp <;> omega
      | x :: xs, y :: ys =>
        rw [Rise.run]
        have i1 := ih xs ys (by simp at hn ⊢; omega)
        have i2 := ih xs (y :: ys) (by simp at hn ⊢; omega)
        have i3 := ih (x :: xs) ys (by simp at hn ⊢; omega)
        simp at i1 i2 i3 ⊢
        split
        · split <;> split <;> simp <;> omega
        · split <;> simp <;> omega
  exact this _ a b (Nat.le_refl _)
end Go.Proofs.YtkdgageljgfgoaaGreatDoor
namespace Go.Proofs.YtkdgageljgfgoaaGreatDoor
open Go.RowKit Go.Shelf

/-- Three values of one kind that may be, over which two lists of steps went. -/
structure Trio (k : Int) (FO FA FB : Int × Int × List El) : Prop where
  kO : FO.1 = k
  kA : FA.1 = k
  kB : FB.1 = k
  vO : valB FO.1 FO.2.1 FO.2.2 = true
  vA : valB FA.1 FA.2.1 FA.2.2 = true
  vB : valB FB.1 FB.2.1 FB.2.2 = true
  iO : I64 FO.2.1
  iA : I64 FA.2.1
  iB : I64 FB.2.1
  lO : FO.2.2.length ≤ 40
  lA : FA.2.2.length ≤ 80
  lB : FB.2.2.length ≤ 80
  two : Two FO.2.2 FA.2.2 FB.2.2
/-- What they come to. -/
def togF (k : Int) (FO FA FB : Int × Int × List El) : Int × Int × List El := (k, wrap64 (wrap64 (FA.2.1 + FB.2.1) - FO.2.1), togL FO.2.2 FA.2.2 FB.2.2)
theorem three_of {W : World} {k : Int} {FO FA FB F : Int × Int × List El} {o1 o2 o3 : Option Addr} {c1 c2 c3 : Nat} (kO : FO.1 = k) (kA : FA.1 = k) (kB : FB.1 = k) (vO : valB FO.1 FO.2.1 FO.2.2 = true) (vA : valB FA.1 FA.2.1 FA.2.2 = true) (vB : valB FB.1 FB.2.1 FB.2.2 = true) (lO : FO.2.2.length ≤ 80) (lA : FA.2.2.length ≤ 80) (lB : FB.2.2.length ≤ 80) (e : F = togF k FO FA FB) (h1 : Rv W o1 c1 FO.2.2) (h2 : Rv W o2 c2 FA.2.2) (h3 : Rv W o3 c3 FB.2.2) :
    Calls Tryz.prog 33 #[vv FO.1 FO.2.1 o1 FO.2.2.length c1, vv FA.1 FA.2.1 o2 FA.2.2.length c2, vv FB.1 FB.2.1 o3 FB.2.2.length c3] W (ValE W (F.1, F.2.1, F.2.2, 0)) := by
  have := three_any FO.1 FO.2.1 FA.1 FA.2.1 FB.1 FB.2.1 h1 h2 h3 (by omega) (by omega) (by omega)
  have e2 : threeV FO.1 FO.2.1 FO.2.2 FA.1 FA.2.1 FA.2.2 FB.1 FB.2.1 FB.2.2 = (F.1, F.2.1, F.2.2, 0) := by
    rw [e, kO, kA, kB]
    exact three_good (by rw [← kO]; exact vO) (by rw [← kA]; exact vA) (by rw [← kB]; exact vB)
  rw [e2] at this
  exact this
theorem Trio.m {k : Int} {FO FA FB : Int × Int × List El} (h : Trio k FO FA FB) {W : World} {o1 o2 o3 : Option Addr} {c1 c2 c3 : Nat} (h1 : Rv W o1 c1 FO.2.2) (h2 : Rv W o2 c2 FA.2.2) (h3 : Rv W o3 c3 FB.2.2) :
    Calls Tryz.prog 33 #[vv FO.1 FO.2.1 o1 FO.2.2.length c1, vv FA.1 FA.2.1 o2 FA.2.2.length c2, vv FB.1 FB.2.1 o3 FB.2.2.length c3] W (ValE W ((togF k FO FA FB).1, (togF k FO FA FB).2.1, (togF k FO FA FB).2.2, 0)) :=
  three_of h.kO h.kA h.kB h.vO h.vA h.vB (by have := h.lO; omega) h.lA h.lB rfl h1 h2 h3
theorem Trio.n {k : Int} {FO FA FB : Int × Int × List El} (h : Trio k FO FA FB) {W : World} {o1 o2 o3 : Option Addr} {c1 c2 c3 : Nat} (h1 : Rv W o1 c1 FO.2.2) (h2 : Rv W o2 c2 FA.2.2) (h3 : Rv W o3 c3 FB.2.2) :
    Calls Tryz.prog 33 #[vv FO.1 FO.2.1 o1 FO.2.2.length c1, vv FB.1 FB.2.1 o3 FB.2.2.length c3, vv FA.1 FA.2.1 o2 FA.2.2.length c2] W (ValE W ((togF k FO FA FB).1, (togF k FO FA FB).2.1, (togF k FO FA FB).2.2, 0)) :=
  three_of h.kO h.kB h.kA h.vO h.vB h.vA (by have := h.lO; omega) h.lB h.lA (by unfold togF; rw [h.two.swap, Int.add_comm FA.2.1]) h1 h3 h2
theorem Trio.p {k : Int} {FO FA FB : Int × Int × List El} (h : Trio k FO FA FB) {W : World} {o1 o2 : Option Addr} {c1 c2 : Nat} (h1 : Rv W o1 c1 FO.2.2) (h2 : Rv W o2 c2 FA.2.2) :
    Calls Tryz.prog 33 #[vv FO.1 FO.2.1 o1 FO.2.2.length c1, vv FA.1 FA.2.1 o2 FA.2.2.length c2, vv FO.1 FO.2.1 o1 FO.2.2.length c1] W (ValE W (FA.1, FA.2.1, FA.2.2, 0)) :=
  three_of h.kO h.kA h.kO h.vO h.vA h.vO (by have := h.lO; omega) h.lA (by have := h.lO; omega) (by
    unfold togF
    rw [h.two.left, num_left h.iA, ← h.kA]) h1 h2 h1
theorem Trio.q {k : Int} {FO FA FB : Int × Int × List El} (h : Trio k FO FA FB) {W : World} {o1 o3 : Option Addr} {c1 c3 : Nat} (h1 : Rv W o1 c1 FO.2.2) (h3 : Rv W o3 c3 FB.2.2) :
    Calls Tryz.prog 33 #[vv FO.1 FO.2.1 o1 FO.2.2.length c1, vv FO.1 FO.2.1 o1 FO.2.2.length c1, vv FB.1 FB.2.1 o3 FB.2.2.length c3] W (ValE W (FB.1, FB.2.1, FB.2.2, 0)) :=
  three_of h.kO h.kO h.kB h.vO h.vO h.vB (by have := h.lO; omega) (by have := h.lO; omega) h.lB (by
    unfold togF
    rw [h.two.right, num_right h.iB, ← h.kB]) h1 h1 h3
theorem Trio.val {k : Int} {FO FA FB : Int × Int × List El} (h : Trio k FO FA FB) : valB (togF k FO FA FB).1 (togF k FO FA FB).2.1 (togF k FO FA FB).2.2 = true :=
  h.two.val (by rw [← h.kO]; exact h.vO) (by rw [← h.kA]; exact h.vA) (by rw [← h.kB]; exact h.vB)
theorem Trio.len {k : Int} {FO FA FB : Int × Int × List El} (h : Trio k FO FA FB) : (togF k FO FA FB).2.2.length ≤ 160 := by
  have := togL_len FO.2.2 FA.2.2 FB.2.2
  have := h.lA
  have := h.lB
  unfold togF
  dsimp only
  omega
theorem trio_of {k : Int} {lo la lb : List OpM} {i j q : Nat} (hi : i ≤ 40) (hj : j ≤ 40) (hq : q ≤ 40) (hv : valB k 0 [] = true) {FO FA FB : Int × Int × List El} (hFO : FO = doneF 1 ⟨#[98, 97, 115, 101]⟩ (k, 0, []) lo i) (hFA : FA = doneF 100 ⟨#[97]⟩ FO la j) (hFB : FB = doneF 100 ⟨#[98]⟩ FO lb q) : Trio k FO FA FB := by
  have vO := doneF_ok (gen := 1) (label := ⟨#[98, 97, 115, 101]⟩) (ops := lo) (v := (k, 0, [])) hv i
  rw [← hFO] at vO
  have vA := doneF_ok (gen := 100) (label := ⟨#[97]⟩) (ops := la) vO.1 j
  rw [← hFA] at vA
  have vB := doneF_ok (gen := 100) (label := ⟨#[98]⟩) (ops := lb) vO.1 q
  rw [← hFB] at vB
  have kO : FO.1 = k := by rw [hFO]; exact (doneF_mem _).1
  have iO : I64 FO.2.1 := by rw [hFO]; exact doneF_i64 (v := (k, 0, [])) ⟨by dsimp only; decide, by dsimp only; decide⟩ _
  have lO : FO.2.2.length ≤ 40 := by have := vO.2; simp at this; omega
  refine ⟨kO, by rw [hFA]; exact (doneF_mem _).1.trans kO, by rw [hFB]; exact (doneF_mem _).1.trans kO, vO.1, vA.1, vB.1, iO, by rw [hFA]; exact doneF_i64 iO _, by rw [hFB]; exact doneF_i64 iO _, lO, by have := vA.2; omega, by have := vB.2; omega, ?_⟩
  have := two_done (k := k) (n := 0) (g0 := 1) (ga := 100) (gb := 100) (lo := ⟨#[98, 97, 115, 101]⟩) (la := ⟨#[97]⟩) (lb := ⟨#[98]⟩) (by decide) (by decide) (by decide) (opsO := lo) (opsA := la) (opsB := lb) (i := i) (j := j) (q := q) hv
  rw [← hFO, ← hFA, ← hFB] at this
  exact this
end Go.Proofs.YtkdgageljgfgoaaGreatDoor
