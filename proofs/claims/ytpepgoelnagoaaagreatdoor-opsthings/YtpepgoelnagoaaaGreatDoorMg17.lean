/-
  kinds: SameTexts, DoWords, Check of the document.
  OPS: the document's Form 15, FormAll 21, Wrong 19, Check 13.
  THE DOCUMENT's Join and Split: what they answer.
  OPS: the document's FormAll 21, Text 16, TextAll 22.
  OPS: the pieces of a text; ParseAll 36.
-/
import Derived.Test.YtpepgoelnagoaaaGreatDoorMg7
import Derived.Test.YtpepgoelnagoaaaGreatDoorMg11
import Derived.Test.YtpepgoelnagoaaaGreatDoorMg6
import Derived.Test.YtpepgoelnagoaaaGreatDoorMg13
namespace Go.Proofs.YtpepgoelnagoaaaGreatDoor.Ki
open Go.RowKit Go.Shelf
set_option linter.unusedSimpArgs false
attribute [local go_sem] Oper.semAt_some
set_option maxHeartbeats 4000000 in
set_option maxRecDepth 100000 in
theorem sameTexts_any {w : World} {ao bo : Option Addr} {c d : Nat} {l m : List ByteArray} (h : Rs w ao l) (k : Rs w bo m) (hl : l.length ≤ 1000000) (hm : m.length ≤ 1000000) : Calls Tryz.prog 74 #[.slice ao l.length c, .slice bo m.length d] w fun e w' => e = .returned (.bool (decide (l = m))) ∧ ∃ n, w' = w.drewN n := by
  obtain ⟨N, hN⟩ : ∃ N, N = l.length := ⟨_, rfl⟩
  obtain ⟨M, hM⟩ : ∃ N, N = m.length := ⟨_, rfl⟩
  obtain ⟨R, hR⟩ : ∃ R, R = decide (l = m) := ⟨_, rfl⟩
  rw [← hR]
  rw [← hN] at hl ⊢
  rw [← hM] at hm ⊢
  have H := hide (And.intro hN (And.intro hM (And.intro h k)))
  have HR := hide hR
  clear hN hM hR h k
  by_cases hNM : N = M
  · subst hNM
    go_enter Tryz.func74, Tryz.ntmps74
    go_wp2
    go_loopw [5] (fun iv wr => ∃ i : Nat, i ≤ N ∧ iv = .int .i64 i ∧ Hid (l.take i = m.take i) ∧ ∃ n, wr = w.drewN n) (fun iv _ => N - (intOf iv).toNat)
    case atStart => exact ⟨0, by omega, rfl, hide (by simp), 0, rfl⟩
    case round =>
      obtain ⟨i, hi, rfl, hrest, n, hwr⟩ := hrel
      have hlr : Rs wr ao l := by rw [hwr]; exact ⟨H.out.2.2.1.1, H.out.2.2.1.2⟩
      have hmr : Rs wr bo m := by rw [hwr]; exact ⟨H.out.2.2.2.1, H.out.2.2.2.2⟩
      have HWR := hide hwr
      clear hwr
      by_cases h1 : i < N
      · have z1 : (i : Int) < (N : Int) := by omega
        have d1 : decide (i < N) = true := by simpa using h1
        obtain ⟨x, hx⟩ : ∃ x, l[i]? = some x := ⟨_, List.getElem?_eq_getElem (by rw [← H.out.1]; exact h1)⟩
        obtain ⟨y, hy⟩ : ∃ y, m[i]? = some y := ⟨_, List.getElem?_eq_getElem (by rw [← H.out.2.1]; exact h1)⟩
        obtain ⟨ab, off, rfl, q0⟩ := hlr.at hx
        obtain ⟨bb, ob, rfl, p0⟩ := hmr.at hy
        have HX := hide (And.intro hx hy)
        clear hx hy hlr hmr
        by_cases hxy : x = y
        · have HXY := hide hxy
          have d2 : (x.toList == y.toList) = true := bytes_same.2 hxy
          clear hxy
          go_wp2
          go_quiet (fail)
          go_wp2
          go_roundw
          case rel => exact ⟨i + 1, by omega, by go_num, hide (by rw [List.take_add_one, List.take_add_one, HX.out.1, HX.out.2, hrest.out, HXY.out]), _, by rw [HWR.out, World.drewN_drewN]⟩
          case measure => simp [intOf]; omega
        · have hd : R = false := by
            rw [HR.out]
            simp only [decide_eq_false_iff_not]
            intro e
            have := HX.out.1.symm.trans ((congrArg (·[i]?) e).trans HX.out.2)
            exact hxy (by simpa using this)
          have d2 : (x.toList == y.toList) = false := by rw [Bool.eq_false_iff, Ne, bytes_same]; exact hxy
          have HD := hide hd
          clear hd hxy
          go_wp2
          go_quiet (fail)
          go_wp2
          go_ret
          exact ⟨by rw [HD.out]; rfl, _, by rw [HWR.out, World.drewN_drewN]⟩
      · obtain rfl : i = N := by omega
        have d1 : decide (i < i) = false := by simp
        go_wp2
        go_ret
        have : l = m := by
          have := hrest.out
          rwa [show l.take i = l by rw [H.out.1]; exact List.take_length, show m.take i = m by rw [H.out.2.1]; exact List.take_length] at this
        exact ⟨by rw [HR.out, decide_eq_true this]; rfl, n, HWR.out⟩
  · have e1 : ((N : Int) == (M : Int)) = false := by rw [beq_eq_false_iff_ne]; omega
    have hd : R = false := by
      rw [HR.out]
      simp only [decide_eq_false_iff_not]
      intro e
      exact hNM (by rw [H.out.1, H.out.2.1, e])
    subst hd
    go_enter Tryz.func74, Tryz.ntmps74
    go_wp2
    go_ret
    exact ⟨rfl, 0, rfl⟩


end Go.Proofs.YtpepgoelnagoaaaGreatDoor.Ki
namespace Go.Proofs.YtpepgoelnagoaaaGreatDoor
open Go.RowKit Go.Shelf
set_option linter.unusedSimpArgs false
set_option linter.unusedVariables false
attribute [local go_sem] Oper.semAt_some

end Go.Proofs.YtpepgoelnagoaaaGreatDoor
namespace Go.Proofs.YtpepgoelnagoaaaGreatDoor
open Go.RowKit Go.Shelf
set_option linter.unusedSimpArgs false

end Go.Proofs.YtpepgoelnagoaaaGreatDoor
namespace Go.Proofs.YtpepgoelnagoaaaGreatDoor
open Go.RowKit Go.Shelf
set_option linter.unusedSimpArgs false
set_option linter.unusedVariables false
attribute [local go_sem] Oper.semAt_some

end Go.Proofs.YtpepgoelnagoaaaGreatDoor
namespace Go.Proofs.YtpepgoelnagoaaaGreatDoor
open Go.RowKit Go.Shelf
set_option linter.unusedSimpArgs false
set_option linter.unusedVariables false
attribute [local go_sem] Oper.semAt_some

/-- How many pieces may be left. -/
def mz (q : Pz) : Nat := if q.more = true then q.left.size + 1 else 0
def pcsQ (sg : List UInt8) : Nat → Pz → List ByteArray
  | 0, _ => []
  | n + 1, q => if q.more = true then (nextP sg q).1 :: pcsQ sg n (nextP sg q).2.2 else []
theorem nextP_mz {sg : List UInt8} (hs : sg ≠ []) {q : Pz} (h : q.more = true) : mz (nextP sg q).2.2 < mz q := by
  obtain ⟨lf, mo⟩ := q
  dsimp only at h
  subst h
  have hn : nextP sg ⟨lf, true⟩ = (⟨(Lib.cut lf.data.toList sg).1.toArray⟩, true, ⟨⟨(Lib.cut lf.data.toList sg).2.1.toArray⟩, (Lib.cut lf.data.toList sg).2.2⟩) := if_pos rfl
  rw [hn]
  have hq : mz ⟨lf, true⟩ = lf.size + 1 := if_pos rfl
  rw [hq]
  unfold mz
  dsimp only
  rw [arr_size, Lib.size_eq lf]
  have hpos : 0 < sg.length := List.length_pos_iff.2 hs
  generalize lf.data.toList = l
  unfold Lib.cut
  split
  next hi =>
    dsimp only
    rw [if_pos rfl, List.length_drop]
    have : l ≠ [] := fun e => by
      subst e
      unfold Lib.index at hi
      cases sg with
      | nil => exact hs rfl
      | cons a b => simp at hi
    have := List.length_pos_iff.2 this
    omega
  next => simp
theorem pcsQ_fuel {sg : List UInt8} (hs : sg ≠ []) : ∀ (n m : Nat) (q : Pz), mz q ≤ n → mz q ≤ m → pcsQ sg n q = pcsQ sg m q
  | 0, m, q, h1, h2 => by
    cases m with
    | zero => rfl
    | succ m =>
      have : q.more = false := by
        cases h : q.more
        · rfl
        · unfold mz at h1; rw [if_pos h] at h1; omega
      unfold pcsQ
      rw [if_neg (by simp [this])]
  | n + 1, m, q, h1, h2 => by
    by_cases h : q.more = true
    · cases m with
      | zero => unfold mz at h2; rw [if_pos h] at h2; omega
      | succ m =>
        have hd := nextP_mz hs h
        unfold pcsQ
        rw [if_pos h, if_pos h, pcsQ_fuel hs n m _ (by omega) (by omega)]
    · cases m with
      | zero => unfold pcsQ; rw [if_neg h]
      | succ m => unfold pcsQ; rw [if_neg h, if_neg h]
theorem pcsQ_step {sg : List UInt8} (hs : sg ≠ []) {q : Pz} (h : q.more = true) : pcsQ sg (mz q) q = (nextP sg q).1 :: pcsQ sg (mz (nextP sg q).2.2) (nextP sg q).2.2 := by
  have hd := nextP_mz hs h
  obtain ⟨n, hn⟩ : ∃ n, mz q = n + 1 := ⟨mz q - 1, by omega⟩
  rw [hn]
  conv => lhs; unfold pcsQ
  rw [if_pos h, pcsQ_fuel hs n (mz (nextP sg q).2.2) _ (by omega) (Nat.le_refl _)]
theorem pcsQ_done {sg : List UInt8} {q : Pz} (h : q.more = false) (n : Nat) : pcsQ sg n q = [] := by
  cases n <;> unfold pcsQ
  · rfl
  · rw [if_neg (by simp [h])]
abbrev nextS : ByteArray := ⟨#[59, 32]⟩
def piecesA (s : ByteArray) : List ByteArray := pcsQ [59, 32] (s.size + 1) ⟨s, true⟩
def parseA (s : ByteArray) : List Od × Int :=
  if s = ⟨#[46]⟩ then ([], 0) else if (piecesA s).length ≤ 64 ∧ ∀ x ∈ piecesA s, (parseS x).2 = 0 then ((piecesA s).map (fun x => (parseS x).1), 0) else ([], 4)
theorem parseS_plen (s : ByteArray) : (parseS s).1.p.length ≤ 1000000 := by
  have hz : odZ.p.length ≤ 1000000 := by show (0 : Nat) ≤ _; omega
  unfold parseS
  split
  · exact hz
  · unfold readS
    split
    · show (fld (spZ blankS).pp [] _ _).1.length ≤ _
      generalize (fld (spZ blankS).pd 0 0 ⟨s, true⟩) = A
      show (if A.2.1 = 0 then spP blankS.data.toList A.2.2 else ([], A.2.1, A.2.2)).1.length ≤ _
      split
      · exact spP_len _ _
      · simp
    · exact hz
def lenV : Value → Nat | .slice _ n _ => n | _ => 0
/-- How far a list of a text is read. -/
structure PaL (P dn : List ByteArray) (xs : List Ox) (one : ByteArray) (mo : Bool) (q : Pz) : Prop where
  ops : xs.map Prod.fst = dn.map (fun x => (parseS x).1)
  ok : ∀ x ∈ dn, (parseS x).2 = 0
  len : dn.length ≤ 64
  all : P = dn ++ (if mo = true then one :: pcsQ [59, 32] (mz q) q else [])
  osz : one.size ≤ 1000000
theorem PaL.xlen {P dn : List ByteArray} {xs : List Ox} {one : ByteArray} {mo : Bool} {q : Pz} (h : PaL P dn xs one mo q) : xs.length = dn.length := by
  have := congrArg List.length h.ops
  simpa using this
theorem PaL.next {P dn : List ByteArray} {xs : List Ox} {one : ByteArray} {q : Pz} {x : Ox} (h : PaL P dn xs one true q) (hx : x.1 = (parseS one).1) (he : (parseS one).2 = 0) (hl : dn.length ≠ 64) (hq : q.left.size ≤ 1000000) : PaL P (dn ++ [one]) (xs ++ [x]) (nextP [59, 32] q).1 (nextP [59, 32] q).2.1 (nextP [59, 32] q).2.2 := by
  refine ⟨by rw [List.map_append, List.map_append, h.ops]; simp [hx], fun y hy => ?_, by have := h.len; rw [List.length_append]; simp; omega, ?_, (nextP_sz hq).1⟩
  · rcases List.mem_append.1 hy with hy | hy
    · exact h.ok y hy
    · simp only [List.mem_cons, List.not_mem_nil, or_false] at hy
      subst hy; exact he
  · rw [h.all, if_pos rfl, List.append_assoc]
    congr 1
    rw [List.cons_append, List.nil_append]
    congr 1
    by_cases hm : q.more = true
    · have hn : (nextP [59, 32] q).2.1 = true := by unfold nextP; rw [if_pos hm]
      rw [hn, if_pos rfl, pcsQ_step (by simp) hm]
    · have hn : (nextP [59, 32] q).2.1 = false := by unfold nextP; rw [if_neg hm]
      rw [hn, if_neg (by simp), pcsQ_done (by simpa using hm)]

set_option maxHeartbeats 8000000 in
set_option maxRecDepth 100000 in
theorem parseAll36_any (s : ByteArray) (w : World) (hs : s.size ≤ 1000000) (hE : EnvO w) (hok : (∀ x ∈ piecesA s, numOk x = true) ∨ EnvE w) : Calls Tryz.prog 36 #[.string s] w fun e w' => ∃ v, e = .returned (.tuple #[v, .int .i64 (parseA s).2]) ∧ ∃ xs, xs.map Prod.fst = (parseA s).1 ∧ Oq w' w.heap.size v xs ∧ Below w.heap.size w w' := by
  by_cases h46 : s = ⟨#[46]⟩
  · have hr : parseA s = ([], 0) := if_pos h46
    rw [hr]
    subst h46
    go_enter Tryz.func36, Tryz.ntmps36
    go_wp2
    go_ret2
    exact ⟨_, rfl, [], rfl, Oq.nil _ _, Below.refl _ _⟩
  have hne : (s.toList == [46]) = false := by
    have h := str_ne' h46
    rw [ByteArray.toList_eq ⟨#[46]⟩] at h
    exact h
  have hr : parseA s = if (piecesA s).length ≤ 64 ∧ ∀ x ∈ piecesA s, (parseS x).2 = 0 then ((piecesA s).map (fun x => (parseS x).1), 0) else ([], 4) := if_neg h46
  have k76 := pieces_any s nextS w hs
  have hP0 : piecesA s = (nextP [59, 32] ⟨s, true⟩).1 :: pcsQ [59, 32] (mz (nextP [59, 32] ⟨s, true⟩).2.2) (nextP [59, 32] ⟨s, true⟩).2.2 := by
    have := pcsQ_step (sg := [59, 32]) (by simp) (q := ⟨s, true⟩) rfl
    exact this
  obtain ⟨X, hX⟩ : ∃ r, r = parseA s := ⟨_, rfl⟩
  rw [← hX] at hr ⊢
  obtain ⟨P, hP⟩ : ∃ r, r = piecesA s := ⟨_, rfl⟩
  rw [← hP] at hr hP0 hok
  have HR := hide hr
  have HE := hide hE
  have HOK := hide hok
  clear hok
  have HP := hide (And.intro hP0 hs)
  clear hX hP hr hE hP0 h46 hs
  go_enter Tryz.func36, Tryz.ntmps36
  go_upto_region 5 with (go_at_call 76; refine k76.mono ?_; rintro e w2 ⟨M, L, S, rfl, hpc, gM, gL, gS, hb⟩; have H2 := hide (And.intro hpc (And.intro gM (And.intro gL (And.intro gS hb)))); clear hpc gM gL gS hb k76)
  have hi : SpIn w w2.heap.size M L S := by
    obtain ⟨hpc, gM, gL, gS, hb⟩ := H2.out
    exact ⟨HE.out, ⟨gM, (Array.getElem?_eq_some_iff.1 hpc.m).1⟩, ⟨gL, (Array.getElem?_eq_some_iff.1 hpc.l).1⟩, ⟨gS, (Array.getElem?_eq_some_iff.1 hpc.s).1⟩⟩
  have st2 : SpSt w w2.heap.size M L S nextS ⟨s, true⟩ w2 := ⟨H2.out.1, H2.out.2.2.2.2, Nat.le_refl _⟩
  obtain ⟨B2, hB2⟩ : ∃ r, r = w2.heap.size := ⟨_, rfl⟩
  rw [← hB2] at hi st2
  have k117 := next_any st2.pc (st2.env hi).max
  have hBs : nextS.data.toList = [59, 32] := rfl
  rw [hBs] at k117
  have hgt : w.heap.size < B2 := Nat.lt_of_le_of_lt hi.m.1 hi.m.2
  have HI := hide (And.intro hi (And.intro st2 hgt))
  clear hi st2 hB2 H2 hBs hgt
  have hPL : PaL P [] [] (nextP [59, 32] ⟨s, true⟩).1 (nextP [59, 32] ⟨s, true⟩).2.1 (nextP [59, 32] ⟨s, true⟩).2.2 := by
    refine ⟨rfl, fun x hx => (by cases hx), by simp, ?_, (nextP_sz HP.out.2).1⟩
    have : (nextP [59, 32] ⟨s, true⟩).2.1 = true := rfl
    rw [this, if_pos rfl, List.nil_append]
    exact HP.out.1
  generalize nextP [59, 32] ⟨s, true⟩ = N0 at k117 hPL
  obtain ⟨n1, n2, n3⟩ := N0
  dsimp only at k117 hPL
  have HPL := hide hPL
  clear hPL HP
  go_wp2_with (go_at_call 117; refine k117.mono ?_; rintro e w3 ⟨rfl, hpc, ho⟩; have H3 := hide (SpSt.step HI.out.1 HI.out.2.1 (Below.refl _ _) hpc ho); clear hpc ho k117)
  have st3 : SpSt w B2 M L S nextS n3 w3 := H3.out.1
  have ST3 := hide st3
  clear st3 H3
  go_loopw [4, 6, 7] (fun v4 v6 v7 wr => ∃ (q : Pz) (one : ByteArray) (mo : Bool) (dn : List ByteArray) (xs : List Ox) (a4 : Option Addr) (c4 : Nat), v4 = .slice a4 xs.length c4 ∧ v6 = .string one ∧ v7 = .bool mo ∧ Hid (Oq wr B2 (.slice a4 xs.length c4) xs) ∧ Hid (SpSt w B2 M L S nextS q wr) ∧ Hid (PaL P dn xs one mo q))
    (fun v4 _ _ _ => P.length - lenV v4)
  case atStart => exact ⟨n3, n1, n2, [], [], none, 0, rfl, rfl, rfl, hide (Oq.nil _ _), ST3, HPL⟩
  case round =>
    obtain ⟨q, one, mo, dn, xs, a4, c4, rfl, rfl, rfl, HO, HS, HL⟩ := hrel
    have hxl := HL.out.xlen
    cases mo
    · have hfin : P = dn := by have := HL.out.all; rw [if_neg (by simp), List.append_nil] at this; exact this
      have hX : X = (dn.map (fun x => (parseS x).1), 0) := by rw [HR.out, hfin]; exact if_pos ⟨HL.out.len, HL.out.ok⟩
      have HX := hide hX
      clear hfin hX hxl
      go_wp2
      go_ret2
      rw [HX.out]
      exact ⟨_, rfl, xs, HL.out.ops, HO.out.lift (Nat.le_of_lt HI.out.2.2), HS.out.old⟩
    · have hall := HL.out.all
      rw [if_pos rfl] at hall
      have hPlen : dn.length < P.length := by rw [hall, List.length_append]; simp
      have k34 := parse34_any one wr HL.out.osz (HS.out.env HI.out.1) (HOK.out.imp (fun h => h one (by rw [hall]; simp)) (fun h => h.below HS.out.old))
      have hpl := parseS_plen one
      obtain ⟨R, hR⟩ : ∃ r, r = parseS one := ⟨_, rfl⟩
      rw [← hR] at k34 hpl
      have HRo := hide (And.intro hR (And.intro hall hPlen))
      clear hR hall hPlen
      obtain ⟨o, er⟩ := R
      dsimp only at k34 hpl
      have Hpl := hide hpl
      clear hpl
      have hbad : (er ≠ 0 ∨ xs.length = 64) → X = ([], 4) := fun h => by
        rw [HR.out]
        refine if_neg (fun hc => ?_)
        rcases h with h | h
        · have := hc.2 one (by rw [HRo.out.2.1]; simp)
          rw [← HRo.out.1] at this
          exact h this
        · have h1 := HRo.out.2.2
          have h2 := hc.1
          omega
      have HBad := hide hbad
      have HXL := hide hxl
      clear hbad hxl
      go_upto_region 9 with (go_at_call 34; refine k34.mono ?_; rintro e w5 ⟨pa, pc, rfl, hos, hb⟩; have H5 := hide (And.intro hos hb); clear hos hb k34)
      obtain ⟨p, k, ks, d, n, t⟩ := o
      dsimp only
      obtain ⟨w6, hw6⟩ : ∃ r, r = w5.alloc (.cells (oc6 (.slice pa p.length pc) k ks d n t) 34) := ⟨_, rfl⟩
      rw [← hw6]
      have d6 : Below w5.heap.size w5 w6 := by rw [hw6]; exact (Below.refl _ _).alloc (Nat.le_refl _) _
      have m6 : w6.heap[w5.heap.size]? = some (.cells (oc6 (.slice pa p.length pc) k ks d n t) 34 (0, 0)) := by rw [hw6]; exact heap_alloc_new _ _
      have d56 : Below wr.heap.size wr w6 := H5.out.2.trans (d6.mono H5.out.2.size)
      obtain ⟨⟨x0, x1, x2, x3, x4, x5⟩, f0, f1, f2, f3, f4, f5⟩ := blk6 m6
      have D6 := hide (And.intro d56 d6)
      clear d56 d6 hw6 m6
      by_cases her : er = 0
      · subst her
        by_cases h64 : xs.length = 64
        · have hX := HBad.out (.inr h64)
          have HX := hide hX
          have z64 : (xs.length : Int) = 64 := by omega
          have hzz : ((xs.length : Int) == 64) = true := by simpa using z64
          clear hX HBad z64 h64
          go_wp2
          go_ret2
          rw [HX.out]
          exact ⟨_, rfl, [], rfl, Oq.nil _ _, HS.out.old.trans (D6.out.1.mono HS.out.old.size)⟩
        · have hzz : ((xs.length : Int) == 64) = false := by simp; omega
          clear HBad
          have hO6 : Oq w6 B2 (.slice a4 xs.length c4) xs := HO.out.below D6.out.1
          have hpath : Os w6 B2 (.slice pa p.length pc) p := row_lift (H5.out.1.below D6.out.2) HS.out.le
          -- the block that the append takes its element from
          have hlen1 : xs.length + 1 ≤ 1000000 := by have := HL.out.len; have := HXL.out; omega
          have d7 : Below w6.heap.size w6 (w6.alloc (.cells (oc6 (.slice pa p.length pc) k ks d n t) 34)) := (Below.refl _ _).alloc (Nat.le_refl _) _
          obtain ⟨v8, w8, hr8, hO8, -, hb8⟩ := push_op (x := (⟨p, k, ks, d, n, t⟩, pa, pc)) (hO6.below d7) (hpath.below d7) Hpl.out (heap_alloc_new w6 (.cells (oc6 (.slice pa p.length pc) k ks d n t) 34)) hlen1 (Nat.le_trans HS.out.le (Nat.le_trans D6.out.1.size d7.size))
          obtain ⟨a8, c8, rfl, -, -, -, -⟩ := hO8.shape
          have st8 : SpSt w B2 M L S nextS q w8 := SpSt.below HI.out.1 HS.out (((D6.out.1.mono HS.out.le).trans (d7.mono (Nat.le_trans HS.out.le D6.out.1.size))).trans hb8)
          have k117 := next_any st8.pc (st8.env HI.out.1).max
          have hBs : nextS.data.toList = [59, 32] := rfl
          rw [hBs] at k117
          have hnext := HL.out.next (x := (⟨p, k, ks, d, n, t⟩, pa, pc)) (by rw [← HRo.out.1]) (by rw [← HRo.out.1]) (by have := HXL.out; omega) HS.out.pc.sz
          generalize nextP [59, 32] q = Nx at k117 hnext
          obtain ⟨y1, y2, y3⟩ := Nx
          dsimp only at k117 hnext
          have HN := hide (And.intro hnext (And.intro st8 hO8))
          have hPl := HRo.out.2.2
          clear hnext st8 hO8 hO6 hpath hlen1 d7 hb8 hBs
          go_upto_region 11 with fail
          go_wp2_with (first
            | (at_builtin; refine wpList_turn (OP := .call { callee := .builtin .append, args := #[.tmp 37, .tmp 39], argTypes := #[22, 22] }) (T := 22) rfl rfl rfl (exec_append rfl rfl hr8) ?_; clear hr8)
            | (go_at_call 117; refine k117.mono ?_; rintro e w9 ⟨rfl, hpc, ho⟩; have H9 := hide (SpSt.step HI.out.1 HN.out.2.1 (Below.refl _ _) hpc ho); have O9 := hide (HN.out.2.2.only ho (fun j hj hd => by have := HI.out.1.m; have := HI.out.1.l; omega)); clear hpc ho k117))
          go_roundw
          case rel => exact ⟨y3, y1, y2, dn ++ [one], xs ++ [(⟨p, k, ks, d, n, t⟩, pa, pc)], a8, c8, by simp, rfl, rfl, O9, hide H9.out.1, hide HN.out.1⟩
          case measure => simp [lenV]; have := HXL.out; omega
      · have hX := HBad.out (.inl her)
        have HX := hide hX
        have her1 : (er != 0) = true := by simpa using her
        clear hX HBad
        go_wp2
        go_ret2
        rw [HX.out]
        exact ⟨_, rfl, [], rfl, Oq.nil _ _, HS.out.old.trans (D6.out.1.mono HS.out.old.size)⟩
end Go.Proofs.YtpepgoelnagoaaaGreatDoor
