/-
  OPS: the document's text 72, and plainly: what its Take 27 reads.
  OPS: how things stand while the document's Take 27 reads.
-/
import Derived.Test.YtpepgoelnagoaaaGreatDoorMg21
import Derived.Test.YtpepgoelnagoaaaGreatDoorMg10
import Derived.Test.YtpepgoelnagoaaaGreatDoorMg19
namespace Go.Proofs.YtpepgoelnagoaaaGreatDoor
open Go.RowKit Go.Shelf
set_option linter.unusedSimpArgs false
set_option linter.unusedVariables false
attribute [local go_sem] Oper.semAt_some
variable {T : Nat}

/-- A text as the document's reader tells it: whether all went well goes along. -/
def dtxt (b : Bool) (q : List Int) : ByteArray × Bool × List Int := (strOfNums (rbytes 9999 q).1, b && decide ((rbytes 9999 q).2.1 = 0), (rbytes 9999 q).2.2)
/-- Texts in a row, as long as all goes well. -/
def dkeys : Nat → Bool → List Int → List ByteArray × Bool × List Int
  | 0, b, q => ([], b, q)
  | n + 1, b, q => if b = true then ((dtxt b q).1 :: (dkeys n (dtxt b q).2.1 (dtxt b q).2.2).1, (dkeys n (dtxt b q).2.1 (dtxt b q).2.2).2.1, (dkeys n (dtxt b q).2.1 (dtxt b q).2.2).2.2) else ([], b, q)
theorem dkeys_succ (n : Nat) (b : Bool) (q : List Int) : dkeys (n + 1) b q = if b = true then ((dtxt b q).1 :: (dkeys n (dtxt b q).2.1 (dtxt b q).2.2).1, (dkeys n (dtxt b q).2.1 (dtxt b q).2.2).2.1, (dkeys n (dtxt b q).2.1 (dtxt b q).2.2).2.2) else ([], b, q) := rfl
theorem dkeys_no (n : Nat) (q : List Int) : dkeys n false q = ([], false, q) := by cases n <;> rfl
def d16 (d : Nat) : Int := (d : Int) % 16
def drd4 (d : Int) (b : Bool) (q : List Int) : (Int × ByteArray) × Bool × List Int :=
  if d = 1 then ((unfoldN (rnum q).1, ⟨#[]⟩), b && decide ((rnum q).2.1 = 0), (rnum q).2.2) else if d = 6 then ((0, ⟨#[]⟩), b, q) else ((0, (dtxt b q).1), (dtxt b q).2.1, (dtxt b q).2.2)
/-- How it begins: the number of the Do, how many keys, whether all goes well. -/
def dhd (q : List Int) : Nat × Nat × Bool × List Int :=
  ((rnum q).1, (rnum (rnum q).2.2).1, decide ((rnum q).2.1 = 0) && (decide ((rnum (rnum q).2.2).2.1 = 0) && (decide ((rnum q).1 < 8) && decide ((rnum (rnum q).2.2).1 ≤ 6))), (rnum (rnum q).2.2).2.2)
/-- What is read, and whether all went well. -/
def drd (q : List Int) : Od × Bool × List Int :=
  let A := dhd q
  let P := dkeys A.2.1 A.2.2.1 A.2.2.2
  let C := dtxt P.2.1 P.2.2
  let E := drd4 (d16 A.1) C.2.1 C.2.2
  (⟨P.1, Ki.ofD (d16 A.1), C.1, d16 A.1, E.1.1, E.1.2⟩, E.2.1, E.2.2)
/-- What the document's Take answers. -/
def dtake (q : List Int) : Od × Int × List Int :=
  if (drd q).2.1 = true ∧ chkO (drd q).1 = 0 ∧ frO (drd q).1 = q.take (q.length - (drd q).2.2.length) then ((drd q).1, 0, (drd q).2.2) else (odZ, 4, q)

theorem dtxt_form (s : ByteArray) (rest : List Int) (h : s.size ≤ 9999) : dtxt true (frB s ++ rest) = (s, true, rest) := by
  have h2 := rtext_form 9999 s rest (by omega) (by omega)
  unfold rtext at h2
  simp only [Prod.mk.injEq] at h2
  unfold dtxt
  rw [h2.1, h2.2.1, h2.2.2]
  rfl
theorem dkeys_form : ∀ (p : List ByteArray) (rest : List Int), (∀ s ∈ p, s.size ≤ 64) → dkeys p.length true (p.flatMap frB ++ rest) = (p, true, rest)
  | [], rest, _ => rfl
  | s :: p, rest, h => by
    have ih := dkeys_form p rest (fun x hx => h x (List.mem_cons_of_mem _ hx))
    have h1 := h s (by simp)
    rw [List.length_cons, dkeys_succ, List.flatMap_cons, List.append_assoc, dtxt_form s _ (by omega), if_pos rfl]
    dsimp only
    rw [ih]
theorem drd_form {o : Od} (ho : OkO o) (hn : I64 o.n) (rest : List Int) : drd (frO o ++ rest) = (o, true, rest) := by
  have hpl := ho.psz.1
  have hps := ho.psz.2
  have hss := ho.ssz
  have htt := ho.text
  have h1 := ho.d1
  have h7 := ho.d7
  have hk := ho.kind
  have hno := ho.num
  have hadd := ho.add
  have hpop := ho.pop
  obtain ⟨p, k, s, d, n, t⟩ := o
  dsimp only at hpl hps hss htt h1 h7 hk hn hno hadd hpop
  obtain ⟨D, rfl⟩ := Int.eq_ofNat_of_zero_le (show 0 ≤ d by omega)
  have hf : frO ⟨p, k, s, (D : Int), n, t⟩ = Plain.numL D ++ frP p ++ frB s ++ frN ⟨p, k, s, (D : Int), n, t⟩ := rfl
  have hh : dhd (frO ⟨p, k, s, (D : Int), n, t⟩ ++ rest) = (D, p.length, true, p.flatMap frB ++ (frB s ++ (frN ⟨p, k, s, (D : Int), n, t⟩ ++ rest))) := by
    have e : frO ⟨p, k, s, (D : Int), n, t⟩ ++ rest = Plain.numL D ++ (Plain.numL p.length ++ (p.flatMap frB ++ (frB s ++ (frN ⟨p, k, s, (D : Int), n, t⟩ ++ rest)))) := by
      rw [hf]
      unfold frP
      simp only [List.append_assoc]
    unfold dhd
    rw [e, rnum_form D _ (by omega)]
    dsimp only
    rw [rnum_form p.length _ (by omega)]
    dsimp only
    simp only [decide_true, Bool.true_and, Prod.mk.injEq, true_and, and_true]
    simp
    omega
  have hd16 : d16 D = (D : Int) := by unfold d16; omega
  unfold drd
  dsimp only
  rw [hh]
  dsimp only
  rw [dkeys_form p _ hps]
  dsimp only
  rw [dtxt_form s _ (by omega)]
  dsimp only
  rw [hd16, ← hk]
  have h4 : drd4 (D : Int) true (frN ⟨p, k, s, (D : Int), n, t⟩ ++ rest) = ((n, t), true, rest) := by
    unfold drd4 frN
    dsimp only
    by_cases e1 : (D : Int) = 1
    · have hr := rnum_form (Plain.fold n) rest (Plain.fold_lt n hn.1 hn.2)
      rw [if_pos e1, if_pos e1, hr, hadd e1, unfold_fold]
      rfl
    · by_cases e6 : (D : Int) = 6
      · rw [if_neg e1, if_pos e6, if_neg e1, if_pos e6, hno e1, hpop e6]
        rfl
      · rw [if_neg e1, if_neg e6, if_neg e1, if_neg e6, dtxt_form t rest (by omega), hno e1]
  rw [h4]
theorem dtxt_sub (b : Bool) (q : List Int) : ∃ k, (dtxt b q).2.2 = q.drop k := rbytes_sub 9999 q
theorem dkeys_sub : ∀ (n : Nat) (b : Bool) (q : List Int), ∃ k, (dkeys n b q).2.2 = q.drop k
  | 0, b, q => ⟨0, rfl⟩
  | n + 1, b, q => by
    rw [dkeys_succ]
    split
    · exact sub_sub (dtxt_sub b q) (dkeys_sub n _ _)
    · exact ⟨0, rfl⟩
theorem drd4_sub (d : Int) (b : Bool) (q : List Int) : ∃ k, (drd4 d b q).2.2 = q.drop k := by
  unfold drd4
  split
  · exact rnum_sub q
  · split
    · exact ⟨0, rfl⟩
    · exact dtxt_sub b q
theorem drd_sub (q : List Int) : ∃ k, (drd q).2.2 = q.drop k :=
  sub_sub (sub_sub (sub_sub (sub_sub (rnum_sub q) (rnum_sub _)) (dkeys_sub _ _ _)) (dtxt_sub _ _)) (drd4_sub _ _ _)
theorem drd_i64 {q : List Int} (h8 : U8 q) (h : (drd q).2.1 = true) : I64 (drd q).1.n := by
  show I64 (drd4 (d16 (dhd q).1) (dtxt (dkeys (dhd q).2.1 (dhd q).2.2.1 (dhd q).2.2.2).2.1 (dkeys (dhd q).2.1 (dhd q).2.2.1 (dhd q).2.2.2).2.2).2.1 (dtxt (dkeys (dhd q).2.1 (dhd q).2.2.1 (dhd q).2.2.2).2.1 (dkeys (dhd q).2.1 (dhd q).2.2.1 (dhd q).2.2.2).2.2).2.2).1.1
  have hs : ∃ k, (dtxt (dkeys (dhd q).2.1 (dhd q).2.2.1 (dhd q).2.2.2).2.1 (dkeys (dhd q).2.1 (dhd q).2.2.1 (dhd q).2.2.2).2.2).2.2 = q.drop k := sub_sub (sub_sub (sub_sub (rnum_sub q) (rnum_sub _)) (dkeys_sub _ _ _)) (dtxt_sub _ _)
  generalize (dtxt (dkeys (dhd q).2.1 (dhd q).2.2.1 (dhd q).2.2.2).2.1 (dkeys (dhd q).2.1 (dhd q).2.2.1 (dhd q).2.2.2).2.2).2.2 = r at hs ⊢
  generalize (dtxt (dkeys (dhd q).2.1 (dhd q).2.2.1 (dhd q).2.2.2).2.1 (dkeys (dhd q).2.1 (dhd q).2.2.1 (dhd q).2.2.2).2.2).2.1 = b
  unfold drd4
  split
  · have h8r := sub_u8 h8 hs
    rcases hr : Plain.readN 0 0 r with _ | ⟨m, k⟩
    · rw [rnum_none hr]; unfold I64 unfoldN; simp
    · have := (rnum_inv h8r (by rw [rnum_some hr])).2
      exact unfold_i64 this
  · split
    · unfold I64; simp
    · unfold I64; simp
/-- The document's Take answers as the program's. -/
theorem dtake_is {q : List Int} (h8 : U8 q) : dtake q = ropF q := by
  have hsub := drd_sub q
  have hi := drd_i64 h8
  by_cases hc : (drd q).2.1 = true ∧ chkO (drd q).1 = 0 ∧ frO (drd q).1 = q.take (q.length - (drd q).2.2.length)
  · obtain ⟨k, hk⟩ := hsub
    have hq : q = frO (drd q).1 ++ (drd q).2.2 := by
      rw [hc.2.2, hk, List.length_drop]
      by_cases hkl : k ≤ q.length
      · rw [show q.length - (q.length - k) = k by omega, List.take_append_drop]
      · rw [show q.length - (q.length - k) = q.length by omega, List.drop_eq_nil_of_le (by omega)]
        simp
    have e : dtake q = ((drd q).1, 0, (drd q).2.2) := if_pos hc
    rw [e]
    have := ropF_form hc.2.1 (hi hc.1) (drd q).2.2
    rw [← hq] at this
    exact this.symm
  · have e : dtake q = (odZ, 4, q) := if_neg hc
    rw [e]
    by_cases hr : (ropF q).2.1 = 0
    · exfalso
      apply hc
      obtain ⟨a, b, c⟩ := ropF_inv h8 hr
      generalize ropF q = X at a b c
      obtain ⟨o, _, r⟩ := X
      dsimp only at a b c
      have hf := drd_form (ok_of b) c r
      rw [← a] at hf
      rw [hf]
      dsimp only
      refine ⟨rfl, b, ?_⟩
      rw [a, List.length_append, show (frO o).length + r.length - r.length = (frO o).length by omega, List.take_left]
    · rw [ropF_no hr]

set_option maxHeartbeats 2000000 in
set_option maxRecDepth 100000 in
theorem dtext_any (D E : Nat) (b : Bool) (LB l : List Int) (w : World) (hD : Doc T w D LB l) (hE : w.heap[E]? = some (.cells #[.bool b] 4 (0, 0))) (hne : E ≠ D) (hTE : T ≤ E) :
    Calls Tryz.prog 72 #[.pointer (some ⟨D, 0, none⟩), .pointer (some ⟨E, 0, none⟩)] w fun e w' => e = .returned (.string (dtxt b l).1) ∧ Doc T w' D LB (dtxt b l).2.2 ∧ w'.heap[E]? = some (.cells #[.bool (dtxt b l).2.1] 4 (0, 0)) ∧ Only (fun j => j = D ∨ j = E) w w' := by
  have k := dbytes_any D 9999 LB l w hD (by omega) (by omega)
  have hx : dtxt b l = (strOfNums (rbytes 9999 l).1, b && decide ((rbytes 9999 l).2.1 = 0), (rbytes 9999 l).2.2) := rfl
  rw [hx]
  clear hx
  generalize rbytes 9999 l = Z at k ⊢
  obtain ⟨o, er, q⟩ := Z
  dsimp only at k ⊢
  have hEs : E < w.heap.size := (Array.getElem?_eq_some_iff.1 hE).1
  have fin : ∀ (w1 : World) (v : Bool), Doc T w1 D LB q → w.grownBy w1 (some D) → w1.heap[E]? = some (.cells #[.bool b] 4 (0, 0)) → Doc T (w1.setCell ⟨E, 0, none⟩ (.bool v)) D LB q ∧ (w1.setCell ⟨E, 0, none⟩ (.bool v)).heap[E]? = some (.cells #[.bool v] 4 (0, 0)) ∧ Only (fun j => j = D ∨ j = E) w (w1.setCell ⟨E, 0, none⟩ (.bool v)) := fun w1 v hd hg he => by
    refine ⟨hd.kept (grown_set w1 E 0 _) (fun k hk => by simp only [Option.some.injEq] at hk; subst hk; exact ⟨hne, hTE⟩), ?_, ?_⟩
    · rw [heap_setCell_same w1 E 0 _ 4 _ he]; simp
    · exact ((only_grown hg).mono (fun _ _ h => .inl h)).trans ((only_grown (grown_set w1 E 0 _)).mono (fun _ _ h => .inr h)) (fun j _ h => h)
  have FIN := hide fin
  have HE := hide (And.intro hE hEs)
  clear hE fin hD
  go_enter Tryz.func72, Tryz.ntmps72
  go_upto_region 2 with (go_at_call 115; refine k.mono ?_; rintro e w1 ⟨ao, cap, rfl, ho, hn, hD1, hg⟩; have hcv := hide (fun W (hW : Only (fun j => j = E) w1 W) => conv_rd (cap := cap) (hW.rd ho.rd (fun a ha => by have := ho.blk a ha; have := HE.out.2; omega)) rfl); have H1 := hide (And.intro ho (And.intro hD1 hg)); clear ho hD1 hg hn)
  have hE1 : w1.heap[E]? = some (.cells #[.bool b] 4 (0, 0)) := (H1.out.2.2.block E HE.out.2 (by simpa using hne)).trans HE.out.1
  have c0 : w1.cell? ⟨E, 0, none⟩ = some (.bool b) := (cell_of_row _ _ 0 _ 4 (0, 0) hE1).trans rfl
  have f0 : w1.frozen? ⟨E, 0, none⟩ = false := frozen_of_row _ _ 0 _ 4 hE1
  have H2 := hide (And.intro (fun v => FIN.out w1 v H1.out.2.1 H1.out.2.2 hE1) (fun v : Value => only_grown (grown_set w1 E 0 v)))
  clear hE1
  rcases (by cases b; exact .inl rfl; exact .inr rfl : b = false ∨ b = true) with rfl | rfl
  · go_upto_region 3 with fail
    obtain ⟨w2, hw2⟩ : ∃ r, r = w1.setCell ⟨E, 0, none⟩ (.bool false) := ⟨_, rfl⟩
    rw [← hw2]
    have hc := hcv.out w2 (by rw [hw2]; exact H2.out.2 _)
    have HF : Hid (Doc T w2 D LB q ∧ w2.heap[E]? = some (.cells #[.bool false] 4 (0, 0)) ∧ Only (fun j => j = D ∨ j = E) w w2) := hide (by rw [hw2]; exact H2.out.1 _)
    clear hw2 c0 f0
    go_wp2
    go_ret
    exact ⟨rfl, HF.out⟩
  · by_cases her : er = 0
    · subst her
      go_upto_region 3 with fail
      obtain ⟨w2, hw2⟩ : ∃ r, r = w1.setCell ⟨E, 0, none⟩ (.bool true) := ⟨_, rfl⟩
      rw [← hw2]
      have hc := hcv.out w2 (by rw [hw2]; exact H2.out.2 _)
      have HF : Hid (Doc T w2 D LB q ∧ w2.heap[E]? = some (.cells #[.bool true] 4 (0, 0)) ∧ Only (fun j => j = D ∨ j = E) w w2) := hide (by rw [hw2]; exact H2.out.1 _)
      clear hw2 c0 f0
      go_wp2
      go_ret
      exact ⟨rfl, HF.out⟩
    · have her1 : (er == 0) = false := by simpa using her
      have her2 : decide (er = 0) = false := by simpa using her
      go_upto_region 3 with fail
      obtain ⟨w2, hw2⟩ : ∃ r, r = w1.setCell ⟨E, 0, none⟩ (.bool false) := ⟨_, rfl⟩
      rw [← hw2]
      have hc := hcv.out w2 (by rw [hw2]; exact H2.out.2 _)
      have HF : Hid (Doc T w2 D LB q ∧ w2.heap[E]? = some (.cells #[.bool false] 4 (0, 0)) ∧ Only (fun j => j = D ∨ j = E) w w2) := hide (by rw [hw2]; exact H2.out.1 _)
      clear hw2 c0 f0
      go_wp2
      go_ret
      rw [her2]
      exact ⟨rfl, HF.out⟩
end Go.Proofs.YtpepgoelnagoaaaGreatDoor
namespace Go.Proofs.YtpepgoelnagoaaaGreatDoor
open Go.RowKit Go.Shelf
set_option linter.unusedSimpArgs false
set_option linter.unusedVariables false
attribute [local go_sem] Oper.semAt_some

/-- At N lies the operation, at E whether all goes well, at D the reader. -/
structure DSt (T : Nat) (w5 : World) (D E N : Nat) (LB : List Int) (v : Value) (k : Int) (s : ByteArray) (d n : Int) (t : ByteArray) (L : List ByteArray) (b : Bool) (q : List Int) (W : World) : Prop where
  doc : Doc T W D LB q
  okc : W.heap[E]? = some (.cells #[.bool b] 4 (0, 0))
  opc : W.heap[N]? = some (.cells (oc6 v k s d n t) 34 (0, 0))
  own : Os W (N + 1) v L
  only : Only (fun j => j = D ∨ j = E ∨ j = N) w5 W
  lts : D < E ∧ E < N ∧ T ≤ D ∧ w5.heap.size ≤ N + 1
section
variable {T : Nat} {w5 W W' : World} {D E N : Nat} {LB : List Int} {v : Value} {k : Int} {s : ByteArray} {d n : Int} {t : ByteArray} {L : List ByteArray} {b b' : Bool} {q q' : List Int}
theorem DSt.call (h : DSt T w5 D E N LB v k s d n t L b q W) (hd : Doc T W' D LB q') (he : W'.heap[E]? = some (.cells #[.bool b'] 4 (0, 0))) (ho : Only (fun j => j = D ∨ j = E) W W') : DSt T w5 D E N LB v k s d n t L b' q' W' := by
  have g := h.lts
  refine ⟨hd, he, (ho.block N (Array.getElem?_eq_some_iff.1 h.opc).1 (by omega)).trans h.opc, h.own.only ho (fun j hj hd => ?_), h.only.trans ho (fun j hj hd => by omega), g⟩
  have := (World.ownsRow.lt h.own j hj).1
  rcases hd with e | e <;> omega
theorem DSt.set (h : DSt T w5 D E N LB v k s d n t L b q W) (i : Nat) (x : Value) (v' : Value) (k' : Int) (s' : ByteArray) (d' n' : Int) (t' : ByteArray) (L' : List ByteArray) (ho' : Os W (N + 1) v' L') (he : (oc6 v k s d n t).setIfInBounds i x = oc6 v' k' s' d' n' t') : DSt T w5 D E N LB v' k' s' d' n' t' L' b q (W.setCell ⟨N, i, none⟩ x) := by
  have g := h.lts
  obtain ⟨c, ho⟩ := Ki.set_one (i := i) x h.opc
  rw [he] at c
  refine ⟨h.doc.kept (grown_set W N i x) (fun k hk => by simp only [Option.some.injEq] at hk; omega), (ho.block E (Array.getElem?_eq_some_iff.1 h.okc).1 (by omega)).trans h.okc, c, ho'.only ho (fun j hj hd => by have := (World.ownsRow.lt ho' j hj).1; omega), h.only.trans ho (fun j hj hd => by omega), g⟩
theorem DSt.setE (h : DSt T w5 D E N LB v k s d n t L b q W) (x : Bool) : DSt T w5 D E N LB v k s d n t L x q (W.setCell ⟨E, 0, none⟩ (.bool x)) := by
  have g := h.lts
  obtain ⟨c, ho⟩ := Ki.set_one (i := 0) (.bool x) h.okc
  refine h.call (h.doc.kept (grown_set W E 0 _) (fun k hk => by simp only [Option.some.injEq] at hk; omega)) (by rw [c]; simp) (ho.mono (fun j _ e => .inr e))
theorem DSt.below (h : DSt T w5 D E N LB v k s d n t L b q W) (hb : Below W.heap.size W W') : DSt T w5 D E N LB v k s d n t L b q W' :=
  h.call (h.doc.kept (grown_of_below (row := none) hb) (by simp)) ((hb.block _ (Array.getElem?_eq_some_iff.1 h.okc).1).trans h.okc) (Ki.below_only hb)
/-- A call that reads a number. -/
theorem DSt.num (h : DSt T w5 D E N LB v k s d n t L b q W) (hd : Doc T W' D LB q') (hg : W.grownBy W' (some D)) : DSt T w5 D E N LB v k s d n t L b q' W' := by
  have g := h.lts
  have ho := only_grown hg
  exact h.call hd ((ho.block E (Array.getElem?_eq_some_iff.1 h.okc).1 (by omega)).trans h.okc) (ho.mono (fun j _ e => .inl e))
theorem DSt.cells (h : DSt T w5 D E N LB v k s d n t L b q W) : (W.cell? ⟨E, 0, none⟩ = some (.bool b) ∧ W.frozen? ⟨E, 0, none⟩ = false) ∧ (W.cell? ⟨N, 0, none⟩ = some v ∧ W.cell? ⟨N, 1, none⟩ = some (.int .i64 k) ∧ W.cell? ⟨N, 2, none⟩ = some (.string s) ∧ W.cell? ⟨N, 3, none⟩ = some (.int .i64 d) ∧ W.cell? ⟨N, 4, none⟩ = some (.int .i64 n) ∧ W.cell? ⟨N, 5, none⟩ = some (.string t)) ∧
    (W.frozen? ⟨N, 0, none⟩ = false ∧ W.frozen? ⟨N, 1, none⟩ = false ∧ W.frozen? ⟨N, 2, none⟩ = false ∧ W.frozen? ⟨N, 3, none⟩ = false ∧ W.frozen? ⟨N, 4, none⟩ = false ∧ W.frozen? ⟨N, 5, none⟩ = false) := by
  obtain ⟨⟨x0, x1, x2, x3, x4, x5⟩, f0, f1, f2, f3, f4, f5⟩ := blk6 h.opc
  exact ⟨⟨(cell_of_row _ _ 0 _ 4 (0, 0) h.okc).trans rfl, frozen_of_row _ _ 0 _ 4 h.okc⟩, ⟨x0, x1, x2, x3, x4, x5⟩, f0, f1, f2, f3, f4, f5⟩
end
/-- How far the keys are read. -/
structure DkL (T : Nat) (w5 : World) (D E N n : Nat) (dv : Int) (LB : List Int) (R : List ByteArray × Bool × List Int) (j : Nat) (L : List ByteArray) (b : Bool) (q : List Int) (v : Value) (W : World) : Prop where
  le : j ≤ n
  len : L.length = j
  small : b = true → n ≤ 6
  lb : L.length ≤ 6
  all : R = (L ++ (dkeys (n - j) b q).1, (dkeys (n - j) b q).2.1, (dkeys (n - j) b q).2.2)
  st : DSt T w5 D E N LB v 0 ⟨#[]⟩ dv 0 ⟨#[]⟩ L b q W
theorem DkL.done {T : Nat} {w5 : World} {D E N n : Nat} {dv : Int} {LB : List Int} {R : List ByteArray × Bool × List Int} {j : Nat} {L : List ByteArray} {b : Bool} {q : List Int} {v : Value} {W : World} (h : DkL T w5 D E N n dv LB R j L b q v W) (hd : n ≤ j ∨ b = false) : R = (L, b, q) := by
  have e : dkeys (n - j) b q = ([], b, q) := by
    rcases hd with hd | rfl
    · rw [show n - j = 0 by have := h.le; omega]; rfl
    · exact dkeys_no _ _
  rw [h.all, e]
  simp
theorem DkL.next {T : Nat} {w5 : World} {D E N n : Nat} {dv : Int} {LB : List Int} {R : List ByteArray × Bool × List Int} {j : Nat} {L : List ByteArray} {q : List Int} {v v' : Value} {W W' : World} (h : DkL T w5 D E N n dv LB R j L true q v W) (hj : j < n)
    (hs : DSt T w5 D E N LB v' 0 ⟨#[]⟩ dv 0 ⟨#[]⟩ (L ++ [(dtxt true q).1]) (dtxt true q).2.1 (dtxt true q).2.2 W') : DkL T w5 D E N n dv LB R (j + 1) (L ++ [(dtxt true q).1]) (dtxt true q).2.1 (dtxt true q).2.2 v' W' := by
  refine ⟨hj, by simp [h.len], fun _ => h.small rfl, by have := h.small rfl; have := h.len; simp; omega, ?_, hs⟩
  rw [h.all, show n - j = (n - (j + 1)) + 1 by omega, dkeys_succ, if_pos rfl]
  simp
/-- A read and a call come up together. -/
theorem read_call_op {P : Program} {md : Region.Mode} {ops : Array Oper} {Q : Exit → Act → World → Prop} {S : World → Prop} {i j : Nat} {oi oj : Oper} {di dj : Tmp} {OPi OPj : Op} {Ti Tj : TypeId} {f : FuncId} {args : Array Value} {u : Value} {fuel : Nat} {listed : Array Bool} {a : Act} {w w' : World}
    (hi : ops[i]? = some oi) (hdi : oi.dst = some di) (hoi : oi.op = OPi) (hti : oi.type = Ti) (hj : ops[j]? = some oj) (hdj : oj.dst = some dj) (hoj : oj.op = OPj) (htj : oj.type = Tj)
    (hr : Region.ready md ops listed = [i, j]) (hwi : Region.wanted oi (yielded ops a.tmps) = true) (hwj : Region.wanted oj (yielded ops a.tmps) = true)
    (hyi : (execOp a.eval { dst := none, op := OPi, type := Ti, pos := "", after := #[], guard := none }).run P w = .ok (.value u) w')
    (hyj : (execOp a.eval { dst := none, op := OPj, type := Tj, pos := "", after := #[], guard := none }).run P w = .ok (.enter f args) w)
    (hS' : S w')
    (h1 : wpAnyH P md ops Q S fuel (listed.setIfInBounds i true) (a.put (some di) u) w') (h2 : Calls P f args w fun e w1 => ∃ v, e = .returned v ∧ S w1 ∧ wpAnyH P md ops Q S fuel (listed.setIfInBounds j true) (a.put (some dj) v) w1) : wpAnyH P md ops Q S (fuel + 1) listed a w := by
  refine wpAnyH_ready hr (by simp) (AllReadyH.cons hi (fun K hK => ?_) (AllReadyH.cons hj (fun K hK => ?_) AllReadyH.nil))
  · rw [if_pos hwi]
    unfold Oper.wp
    rw [exec_same a.eval oi hoi hti, hyi]
    show K (a.put oi.dst u) w'
    rw [hdi]
    exact hK.out _ _ hS' (fun _ => h1)
  · rw [if_pos hwj]
    unfold Oper.wp
    rw [exec_same a.eval oj hoj htj, hyj]
    refine Calls.mono h2 ?_
    rintro e w1 ⟨v, rfl, hS, hx⟩
    show K (a.put oj.dst v) w1
    rw [hdj]
    exact hK.out _ _ hS (fun _ => hx)
end Go.Proofs.YtpepgoelnagoaaaGreatDoor
