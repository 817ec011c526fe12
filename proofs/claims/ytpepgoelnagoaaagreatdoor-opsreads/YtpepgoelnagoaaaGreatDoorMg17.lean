/-
  OPS: the pieces of a text; ParseAll 36.
  OPS, forms: wire.Take[Op] 110 over ops.Take; takeAll 67, whole 66, ReadAll 24.
  OPS, forms: what is written reads back: numbers, texts, paths, an operation, a list.
-/
import Derived.Test.YtpepgoelnagoaaaGreatDoorMg16
namespace Go.Proofs.YtpepgoelnagoaaaGreatDoor
open Go.RowKit Go.Shelf
set_option linter.unusedSimpArgs false
set_option linter.unusedVariables false
attribute [local go_sem] Oper.semAt_some

/-- How many pieces may be left. -/
def mz (q : Pz) : Nat := if q.more = true then q.left.size + 1 else 0
def pcsQ (sg : List UInt8) : Nat → Pz → List ByteArray
  | 0, _ => []
  | n + 1, q => if q.more = true then (nextP sg q).1 :: pcsQ sg n (nextP sg q).2.2 else []
theorem nextP_mz {sg : List UInt8} (hs : sg ≠ []) {q : Pz} (h : q.more = true) : mz (nextP sg q).2.2 < mz q := by
  obtain ⟨lf, mo⟩ := q
  dsimp only at h
  subst h
  have hn : nextP sg ⟨lf, true⟩ = (⟨(Lib.cut lf.data.toList sg).1.toArray⟩, true, ⟨⟨(Lib.cut lf.data.toList sg).2.1.toArray⟩, (Lib.cut lf.data.toList sg).2.2⟩) := if_pos rfl
  rw [hn]
  have hq : mz ⟨lf, true⟩ = lf.size + 1 := if_pos rfl
  rw [hq]
  unfold mz
  dsimp only
  rw [arr_size, Lib.size_eq lf]
  have hpos : 0 < sg.length := List.length_pos_iff.2 hs
  generalize lf.data.toList = l
  unfold Lib.cut
  split
  next hi =>
    dsimp only
    rw [if_pos rfl, List.length_drop]
    have : l ≠ [] := fun e => by
      subst e
      unfold Lib.index at hi
      cases sg with
      | nil => exact hs rfl
      | cons a b => simp at hi
    have := List.length_pos_iff.2 this
    omega
  next => simp
theorem pcsQ_fuel {sg : List UInt8} (hs : sg ≠ []) : ∀ (n m : Nat) (q : Pz), mz q ≤ n → mz q ≤ m → pcsQ sg n q = pcsQ sg m q
  | 0, m, q, h1, h2 => by
    cases m with
    | zero => rfl
    | succ m =>
      have : q.more = false := by
        cases h : q.more
        · rfl
        · unfold mz at h1; rw [if_pos h] at h1; omega
      unfold pcsQ
      rw [if_neg (by simp [this])]
  | n + 1, m, q, h1, h2 => by
    by_cases h : q.more = true
    · cases m with
      | zero => unfold mz at h2; rw [if_pos h] at h2; omega
      | succ m =>
        have hd := nextP_mz hs h
        unfold pcsQ
        rw [if_pos h, if_pos h, pcsQ_fuel hs n m _ (by omega) (by omega)]
    · cases m with
      | zero => unfold pcsQ; rw [if_neg h]
      | succ m => unfold pcsQ; rw [if_neg h, if_neg h]
theorem pcsQ_step {sg : List UInt8} (hs : sg ≠ []) {q : Pz} (h : q.more = true) : pcsQ sg (mz q) q = (nextP sg q).1 :: pcsQ sg (mz (nextP sg q).2.2) (nextP sg q).2.2 := by
  have hd := nextP_mz hs h
  obtain ⟨n, hn⟩ : ∃ n, mz q = n + 1 := ⟨mz q - 1, by omega⟩
  rw [hn]
  conv => lhs; unfold pcsQ
  rw [if_pos h, pcsQ_fuel hs n (mz (nextP sg q).2.2) _ (by omega) (Nat.le_refl _)]
theorem pcsQ_done {sg : List UInt8} {q : Pz} (h : q.more = false) (n : Nat) : pcsQ sg n q = [] := by
  cases n <;> unfold pcsQ
  · rfl
  · rw [if_neg (by simp [h])]
abbrev nextS : ByteArray := ⟨#[59, 32]⟩
def piecesA (s : ByteArray) : List ByteArray := pcsQ [59, 32] (s.size + 1) ⟨s, true⟩
def parseA (s : ByteArray) : List Od × Int :=
  if s = ⟨#[46]⟩ then ([], 0) else if (piecesA s).length ≤ 64 ∧ ∀ x ∈ piecesA s, (parseS x).2 = 0 then ((piecesA s).map (fun x => (parseS x).1), 0) else ([], 4)
theorem parseS_plen (s : ByteArray) : (parseS s).1.p.length ≤ 1000000 := by
  have hz : odZ.p.length ≤ 1000000 := by show (0 : Nat) ≤ _; omega
  unfold parseS
  split
  · exact hz
  · unfold readS
    split
    · show (fld (spZ blankS).pp [] _ _).1.length ≤ _
      generalize (fld (spZ blankS).pd 0 0 ⟨s, true⟩) = A
      show (if A.2.1 = 0 then spP blankS.data.toList A.2.2 else ([], A.2.1, A.2.2)).1.length ≤ _
      split
      · exact spP_len _ _
      · simp
    · exact hz
def lenV : Value → Nat | .slice _ n _ => n | _ => 0
/-- How far a list of a text is read. -/
structure PaL (P dn : List ByteArray) (xs : List Ox) (one : ByteArray) (mo : Bool) (q : Pz) : Prop where
  ops : xs.map Prod.fst = dn.map (fun x => (parseS x).1)
  ok : ∀ x ∈ dn, (parseS x).2 = 0
  len : dn.length ≤ 64
  all : P = dn ++ (if mo = true then one :: pcsQ [59, 32] (mz q) q else [])
  osz : one.size ≤ 1000000
theorem PaL.xlen {P dn : List ByteArray} {xs : List Ox} {one : ByteArray} {mo : Bool} {q : Pz} (h : PaL P dn xs one mo q) : xs.length = dn.length := by
  have := congrArg List.length h.ops
  simpa using this
theorem PaL.next {P dn : List ByteArray} {xs : List Ox} {one : ByteArray} {q : Pz} {x : Ox} (h : PaL P dn xs one true q) (hx : x.1 = (parseS one).1) (he : (parseS one).2 = 0) (hl : dn.length ≠ 64) (hq : q.left.size ≤ 1000000) : PaL P (dn ++ [one]) (xs ++ [x]) (nextP [59, 32] q).1 (nextP [59, 32] q).2.1 (nextP [59, 32] q).2.2 := by
  refine ⟨by rw [List.map_append, List.map_append, h.ops]; simp [hx], fun y hy => ?_, by have := h.len; rw [List.length_append]; simp; omega, ?_, (nextP_sz hq).1⟩
  · rcases List.mem_append.1 hy with hy | hy
    · exact h.ok y hy
    · simp only [List.mem_cons, List.not_mem_nil, or_false] at hy
      subst hy; exact he
  · rw [h.all, if_pos rfl, List.append_assoc]
    congr 1
    rw [List.cons_append, List.nil_append]
    congr 1
    by_cases hm : q.more = true
    · have hn : (nextP [59, 32] q).2.1 = true := by unfold nextP; rw [if_pos hm]
      rw [hn, if_pos rfl, pcsQ_step (by simp) hm]
    · have hn : (nextP [59, 32] q).2.1 = false := by unfold nextP; rw [if_neg hm]
      rw [hn, if_neg (by simp), pcsQ_done (by simpa using hm)]

set_option maxHeartbeats 8000000 in
set_option maxRecDepth 100000 in
theorem parseAll36_any (s : ByteArray) (w : World) (hs : s.size ≤ 1000000) (hE : EnvO w) (hok : (∀ x ∈ piecesA s, numOk x = true) ∨ EnvE w) : Calls Tryz.prog 36 #[.string s] w fun e w' => ∃ v, e = .returned (.tuple #[v, .int .i64 (parseA s).2]) ∧ ∃ xs, xs.map Prod.fst = (parseA s).1 ∧ Oq w' w.heap.size v xs ∧ Below w.heap.size w w' := by
  by_cases h46 : s = ⟨#[46]⟩
  · have hr : parseA s = ([], 0) := if_pos h46
    rw [hr]
    subst h46
    go_enter Tryz.func36, Tryz.ntmps36
    go_wp2
    go_ret2
    exact ⟨_, rfl, [], rfl, Oq.nil _ _, Below.refl _ _⟩
  have hne : (s.toList == [46]) = false := by
    have h := str_ne' h46
    rw [ByteArray.toList_eq ⟨#[46]⟩] at h
    exact h
  have hr : parseA s = if (piecesA s).length ≤ 64 ∧ ∀ x ∈ piecesA s, (parseS x).2 = 0 then ((piecesA s).map (fun x => (parseS x).1), 0) else ([], 4) := if_neg h46
  have k76 := pieces_any s nextS w hs
  have hP0 : piecesA s = (nextP [59, 32] ⟨s, true⟩).1 :: pcsQ [59, 32] (mz (nextP [59, 32] ⟨s, true⟩).2.2) (nextP [59, 32] ⟨s, true⟩).2.2 := by
    have := pcsQ_step (sg := [59, 32]) (by simp) (q := ⟨s, true⟩) rfl
    exact this
  obtain ⟨X, hX⟩ : ∃ r, r = parseA s := ⟨_, rfl⟩
  rw [← hX] at hr ⊢
  obtain ⟨P, hP⟩ : ∃ r, r = piecesA s := ⟨_, rfl⟩
  rw [← hP] at hr hP0 hok
  have HR := hide hr
  have HE := hide hE
  have HOK := hide hok
  clear hok
  have HP := hide (And.intro hP0 hs)
  clear hX hP hr hE hP0 h46 hs
  go_enter Tryz.func36, Tryz.ntmps36
  go_upto_region 5 with (go_at_call 76; refine k76.mono ?_; rintro e w2 ⟨M, L, S, rfl, hpc, gM, gL, gS, hb⟩; have H2 := hide (And.intro hpc (And.intro gM (And.intro gL (And.intro gS hb)))); clear hpc gM gL gS hb k76)
  have hi : SpIn w w2.heap.size M L S := by
    obtain ⟨hpc, gM, gL, gS, hb⟩ := H2.out
    exact ⟨HE.out, ⟨gM, (Array.getElem?_eq_some_iff.1 hpc.m).1⟩, ⟨gL, (Array.getElem?_eq_some_iff.1 hpc.l).1⟩, ⟨gS, (Array.getElem?_eq_some_iff.1 hpc.s).1⟩⟩
  have st2 : SpSt w w2.heap.size M L S nextS ⟨s, true⟩ w2 := ⟨H2.out.1, H2.out.2.2.2.2, Nat.le_refl _⟩
  obtain ⟨B2, hB2⟩ : ∃ r, r = w2.heap.size := ⟨_, rfl⟩
  rw [← hB2] at hi st2
  have k117 := next_any st2.pc (st2.env hi).max
  have hBs : nextS.data.toList = [59, 32] := rfl
  rw [hBs] at k117
  have hgt : w.heap.size < B2 := Nat.lt_of_le_of_lt hi.m.1 hi.m.2
  have HI := hide (And.intro hi (And.intro st2 hgt))
  clear hi st2 hB2 H2 hBs hgt
  have hPL : PaL P [] [] (nextP [59, 32] ⟨s, true⟩).1 (nextP [59, 32] ⟨s, true⟩).2.1 (nextP [59, 32] ⟨s, true⟩).2.2 := by
    refine ⟨rfl, fun x hx => (by cases hx), by simp, ?_, (nextP_sz HP.out.2).1⟩
    have : (nextP [59, 32] ⟨s, true⟩).2.1 = true := rfl
    rw [this, if_pos rfl, List.nil_append]
    exact HP.out.1
  generalize nextP [59, 32] ⟨s, true⟩ = N0 at k117 hPL
  obtain ⟨n1, n2, n3⟩ := N0
  dsimp only at k117 hPL
  have HPL := hide hPL
  clear hPL HP
  go_wp2_with (go_at_call 117; refine k117.mono ?_; rintro e w3 ⟨rfl, hpc, ho⟩; have H3 := hide (SpSt.step HI.out.1 HI.out.2.1 (Below.refl _ _) hpc ho); clear hpc ho k117)
  have st3 : SpSt w B2 M L S nextS n3 w3 := H3.out.1
  have ST3 := hide st3
  clear st3 H3
  go_loopw [4, 6, 7] (fun v4 v6 v7 wr => ∃ (q : Pz) (one : ByteArray) (mo : Bool) (dn : List ByteArray) (xs : List Ox) (a4 : Option Addr) (c4 : Nat), v4 = .slice a4 xs.length c4 ∧ v6 = .string one ∧ v7 = .bool mo ∧ Hid (Oq wr B2 (.slice a4 xs.length c4) xs) ∧ Hid (SpSt w B2 M L S nextS q wr) ∧ Hid (PaL P dn xs one mo q))
    (fun v4 _ _ _ => P.length - lenV v4)
  case atStart => exact ⟨n3, n1, n2, [], [], none, 0, rfl, rfl, rfl, hide (Oq.nil _ _), ST3, HPL⟩
  case round =>
    obtain ⟨q, one, mo, dn, xs, a4, c4, rfl, rfl, rfl, HO, HS, HL⟩ := hrel
    have hxl := HL.out.xlen
    cases mo
    · have hfin : P = dn := by have := HL.out.all; rw [if_neg (by simp), List.append_nil] at this; exact this
      have hX : X = (dn.map (fun x => (parseS x).1), 0) := by rw [HR.out, hfin]; exact if_pos ⟨HL.out.len, HL.out.ok⟩
      have HX := hide hX
      clear hfin hX hxl
      go_wp2
      go_ret2
      rw [HX.out]
      exact ⟨_, rfl, xs, HL.out.ops, HO.out.lift (Nat.le_of_lt HI.out.2.2), HS.out.old⟩
    · have hall := HL.out.all
      rw [if_pos rfl] at hall
      have hPlen : dn.length < P.length := by rw [hall, List.length_append]; simp
      have k34 := parse34_any one wr HL.out.osz (HS.out.env HI.out.1) (HOK.out.imp (fun h => h one (by rw [hall]; simp)) (fun h => h.below HS.out.old))
      have hpl := parseS_plen one
      obtain ⟨R, hR⟩ : ∃ r, r = parseS one := ⟨_, rfl⟩
      rw [← hR] at k34 hpl
      have HRo := hide (And.intro hR (And.intro hall hPlen))
      clear hR hall hPlen
      obtain ⟨o, er⟩ := R
      dsimp only at k34 hpl
      have Hpl := hide hpl
      clear hpl
      have hbad : (er ≠ 0 ∨ xs.length = 64) → X = ([], 4) := fun h => by
        rw [HR.out]
        refine if_neg (fun hc => ?_)
        rcases h with h | h
        · have := hc.2 one (by rw [HRo.out.2.1]; simp)
          rw [← HRo.out.1] at this
          exact h this
        · have h1 := HRo.out.2.2
          have h2 := hc.1
          omega
      have HBad := hide hbad
      have HXL := hide hxl
      clear hbad hxl
      go_upto_region 9 with (go_at_call 34; refine k34.mono ?_; rintro e w5 ⟨pa, pc, rfl, hos, hb⟩; have H5 := hide (And.intro hos hb); clear hos hb k34)
      obtain ⟨p, k, ks, d, n, t⟩ := o
      dsimp only
      obtain ⟨w6, hw6⟩ : ∃ r, r = w5.alloc (.cells (oc6 (.slice pa p.length pc) k ks d n t) 34) := ⟨_, rfl⟩
      rw [← hw6]
      have d6 : Below w5.heap.size w5 w6 := by rw [hw6]; exact (Below.refl _ _).alloc (Nat.le_refl _) _
      have m6 : w6.heap[w5.heap.size]? = some (.cells (oc6 (.slice pa p.length pc) k ks d n t) 34 (0, 0)) := by rw [hw6]; exact heap_alloc_new _ _
      have d56 : Below wr.heap.size wr w6 := H5.out.2.trans (d6.mono H5.out.2.size)
      obtain ⟨⟨x0, x1, x2, x3, x4, x5⟩, f0, f1, f2, f3, f4, f5⟩ := blk6 m6
      have D6 := hide (And.intro d56 d6)
      clear d56 d6 hw6 m6
      by_cases her : er = 0
      · subst her
        by_cases h64 : xs.length = 64
        · have hX := HBad.out (.inr h64)
          have HX := hide hX
          have z64 : (xs.length : Int) = 64 := by omega
          have hzz : ((xs.length : Int) == 64) = true := by simpa using z64
          clear hX HBad z64 h64
          go_wp2
          go_ret2
          rw [HX.out]
          exact ⟨_, rfl, [], rfl, Oq.nil _ _, HS.out.old.trans (D6.out.1.mono HS.out.old.size)⟩
        · have hzz : ((xs.length : Int) == 64) = false := by simp; omega
          clear HBad
          have hO6 : Oq w6 B2 (.slice a4 xs.length c4) xs := HO.out.below D6.out.1
          have hpath : Os w6 B2 (.slice pa p.length pc) p := row_lift (H5.out.1.below D6.out.2) HS.out.le
          -- the block that the append takes its element from
          have hlen1 : xs.length + 1 ≤ 1000000 := by have := HL.out.len; have := HXL.out; omega
          have d7 : Below w6.heap.size w6 (w6.alloc (.cells (oc6 (.slice pa p.length pc) k ks d n t) 34)) := (Below.refl _ _).alloc (Nat.le_refl _) _
          obtain ⟨v8, w8, hr8, hO8, -, hb8⟩ := push_op (x := (⟨p, k, ks, d, n, t⟩, pa, pc)) (hO6.below d7) (hpath.below d7) Hpl.out (heap_alloc_new w6 (.cells (oc6 (.slice pa p.length pc) k ks d n t) 34)) hlen1 (Nat.le_trans HS.out.le (Nat.le_trans D6.out.1.size d7.size))
          obtain ⟨a8, c8, rfl, -, -, -, -⟩ := hO8.shape
          have st8 : SpSt w B2 M L S nextS q w8 := SpSt.below HI.out.1 HS.out (((D6.out.1.mono HS.out.le).trans (d7.mono (Nat.le_trans HS.out.le D6.out.1.size))).trans hb8)
          have k117 := next_any st8.pc (st8.env HI.out.1).max
          have hBs : nextS.data.toList = [59, 32] := rfl
          rw [hBs] at k117
          have hnext := HL.out.next (x := (⟨p, k, ks, d, n, t⟩, pa, pc)) (by rw [← HRo.out.1]) (by rw [← HRo.out.1]) (by have := HXL.out; omega) HS.out.pc.sz
          generalize nextP [59, 32] q = Nx at k117 hnext
          obtain ⟨y1, y2, y3⟩ := Nx
          dsimp only at k117 hnext
          have HN := hide (And.intro hnext (And.intro st8 hO8))
          have hPl := HRo.out.2.2
          clear hnext st8 hO8 hO6 hpath hlen1 d7 hb8 hBs
          go_upto_region 11 with fail
          go_wp2_with (first
            | (at_builtin; refine wpList_turn (OP := .call { callee := .builtin .append, args := #[.tmp 37, .tmp 39], argTypes := #[22, 22] }) (T := 22) rfl rfl rfl (exec_append rfl rfl hr8) ?_; clear hr8)
            | (go_at_call 117; refine k117.mono ?_; rintro e w9 ⟨rfl, hpc, ho⟩; have H9 := hide (SpSt.step HI.out.1 HN.out.2.1 (Below.refl _ _) hpc ho); have O9 := hide (HN.out.2.2.only ho (fun j hj hd => by have := HI.out.1.m; have := HI.out.1.l; omega)); clear hpc ho k117))
          go_roundw
          case rel => exact ⟨y3, y1, y2, dn ++ [one], xs ++ [(⟨p, k, ks, d, n, t⟩, pa, pc)], a8, c8, by simp, rfl, rfl, O9, hide H9.out.1, hide HN.out.1⟩
          case measure => simp [lenV]; have := HXL.out; omega
      · have hX := HBad.out (.inl her)
        have HX := hide hX
        have her1 : (er != 0) = true := by simpa using her
        clear hX HBad
        go_wp2
        go_ret2
        rw [HX.out]
        exact ⟨_, rfl, [], rfl, Oq.nil _ _, HS.out.old.trans (D6.out.1.mono HS.out.old.size)⟩
end Go.Proofs.YtpepgoelnagoaaaGreatDoor
namespace Go.Proofs.YtpepgoelnagoaaaGreatDoor
open Go.RowKit Go.Shelf
variable {K : Nat → Prop}
set_option linter.unusedSimpArgs false
set_option linter.unusedVariables false
attribute [local go_sem] Oper.semAt_some

theorem ropF_plen (q : List Int) : (ropF q).1.p.length ≤ 1000000 := by
  have hz : odZ.p.length ≤ 1000000 := by show (0 : Nat) ≤ _; omega
  show (readS fmZ q).1.p.length ≤ _
  unfold readS
  split
  · show (fld fmZ.pp [] _ _).1.length ≤ _
    generalize (fld fmZ.pd 0 0 q) = A
    show (if A.2.1 = 0 then rpath A.2.2 else ([], A.2.1, A.2.2)).1.length ≤ _
    split
    · have := (rpath_len A.2.2).1; omega
    · simp
  · exact hz
/-- Taking operations in a row, till one is wrong. -/
def rlist : Nat → List Int → List Od × Int × List Int
  | 0, q => ([], 0, q)
  | n + 1, q => if (ropF q).2.1 = 0 then ((ropF q).1 :: (rlist n (ropF q).2.2).1, (rlist n (ropF q).2.2).2.1, (rlist n (ropF q).2.2).2.2) else ([], (ropF q).2.1, (ropF q).2.2)
theorem rlist_succ (n : Nat) (q : List Int) : rlist (n + 1) q = if (ropF q).2.1 = 0 then ((ropF q).1 :: (rlist n (ropF q).2.2).1, (rlist n (ropF q).2.2).2.1, (rlist n (ropF q).2.2).2.2) else ([], (ropF q).2.1, (ropF q).2.2) := rfl
/-- What taking a list answers. -/
def rops (q : List Int) : List Od × Int × List Int :=
  if (rcount 64 q).2.1 = 0 then (if (rlist (rcount 64 q).1.toNat (rcount 64 q).2.2).2.1 = 0 then rlist (rcount 64 q).1.toNat (rcount 64 q).2.2 else ([], (rlist (rcount 64 q).1.toNat (rcount 64 q).2.2).2.1, q)) else ([], (rcount 64 q).2.1, q)
/-- How far operations are taken. -/
structure OtL (K : Nat → Prop) (w1 : World) (R S n : Nat) (q1 : List Int) (j : Nat) (L : List Ox) (q : List Int) (W : World) : Prop where
  le : j ≤ n
  len : L.length = j
  all : rlist n q1 = (L.map Prod.fst ++ (rlist (n - j) q).1, (rlist (n - j) q).2.1, (rlist (n - j) q).2.2)
  rd : Rdr K 77 W R S q
  only : Only (fun k => k = R) w1 W
  sz : q.length ≤ 140737488355328

set_option maxHeartbeats 4000000 in
set_option maxRecDepth 100000 in
theorem take110_any (R S : Nat) (l : List Int) (w : World) (hR : Rdr K 77 w R S l) (hl47 : l.length ≤ 140737488355328) (hSw : S ≤ w.heap.size) (w0 : World) (hE : EnvO w0) (hB0 : Below w0.heap.size w0 w) (hR0 : w0.heap.size ≤ R) :
    Calls Tryz.prog 110 #[.pointer (some ⟨R, 0, none⟩), .int .i64 64, .func (.func 26) #[] #[]] w fun e w' => ∃ v, e = .returned (.tuple #[v, .int .i64 (rops l).2.1]) ∧ (∃ xs, xs.map Prod.fst = (rops l).1 ∧ Oq w' w.heap.size v xs) ∧ Rdr K 77 w' R S (rops l).2.2 ∧ w.grownBy w' (some R) := by
  obtain ⟨ao, cap, c0, c1, f0, f1, hsz, hl⟩ := hR.cells
  obtain ⟨w1, hw1⟩ : ∃ r, r = w.alloc (.cells #[.slice ao l.length cap, .bool true] 77) := ⟨_, rfl⟩
  have hR1 : Rdr K 77 w1 R S l := by rw [hw1]; exact hR.kept (World.grownBy_alloc w _ none) (by simp)
  have k147 := rcount_any R S 64 l w1 hR1 (by omega)
  have h6 := rcount_le (most := 64) (l := l) (by omega)
  have hn0 := rcount_nonneg 64 l
  have hle := rcount_left 64 l
  have hrp : rops l = if (rcount 64 l).2.1 = 0 then (if (rlist (rcount 64 l).1.toNat (rcount 64 l).2.2).2.1 = 0 then rlist (rcount 64 l).1.toNat (rcount 64 l).2.2 else ([], (rlist (rcount 64 l).1.toNat (rcount 64 l).2.2).2.1, l)) else ([], (rcount 64 l).2.1, l) := rfl
  have he := rcount_err (most := 64) (l := l)
  have hz : (rcount 64 l).2.1 ≠ 0 → (rcount 64 l).1 = 0 := by
    unfold rcount
    rw [if_neg (by omega)]
    split
    · simp
    · split
      · simp
      · simp
  obtain ⟨X, hX⟩ : ∃ r, r = rops l := ⟨_, rfl⟩
  rw [← hX] at hrp ⊢
  clear hX
  generalize rcount 64 l = C at k147 h6 hn0 hle hrp he hz
  obtain ⟨cn, ce, q1⟩ := C
  dsimp only at k147 h6 hn0 hle hrp he hz
  obtain ⟨n, rfl⟩ := Int.eq_ofNat_of_zero_le hn0
  have hn6 : n ≤ 64 := by omega
  rw [show ((n : Int)).toNat = n from rfl] at hrp
  have HRp := hide (And.intro hrp hz)
  have HE0 := hide (And.intro hE (And.intro (show Below w0.heap.size w0 w1 by rw [hw1]; exact hB0.alloc hB0.size _) hR0))
  have HW := hide (And.intro hw1 (And.intro hR hle))
  have km := missing_no R w c1
  have hnf : ∀ W, (binOp BinOp.eql 53 (.func (.func 26) #[] #[]) Value.nilFunc).run Tryz.prog W = .ok (.bool false) W := fun _ => rfl
  clear hrp h6 hn0 hle he hz hw1
  go_enter Tryz.func110, Tryz.ntmps110
  go_upto_region 1 with fail
  go_step3
  go_upto_region 3 with (go_at_call 75; refine km.mono ?_; rintro e wm ⟨rfl, hm⟩; have hm := hm.symm; subst hm)
  go_upto_region 4 with fail
  rw [← HW.out.1]
  go_upto_region 6 with (go_at_call 147; refine k147.mono ?_; rintro e w2 ⟨rfl, hr2, hg2⟩; have H2 := hide (And.intro hr2 (only_grown hg2)); clear hr2 hg2 k147)
  go_step3
  go_wp2
  have h11 : OtL K w1 R S n q1 0 [] q1 w2 := ⟨Nat.zero_le _, rfl, by simp, H2.out.1, H2.out.2, Nat.le_trans HW.out.2.2 hl47⟩
  have H11 := hide h11
  clear h11
  go_loopw [10, 11, 30] (fun v10 v11 v30 wr => ∃ (j : Nat) (L : List Ox) (q : List Int) (a : Option Addr) (c : Nat), v10 = .int .i64 ce ∧ v11 = .slice a L.length c ∧ v30 = .int .i64 (j : Nat) ∧ Hid (Oq wr w1.heap.size (.slice a L.length c) L) ∧ Hid (OtL K w1 R S n q1 j L q wr))
    (fun _ _ v30 _ => n - (intOf v30).toNat)
  case atStart => exact ⟨0, [], q1, none, 0, rfl, rfl, rfl, hide (Oq.nil _ _), H11⟩
  case round =>
    obtain ⟨j, L, q, a, c, rfl, rfl, rfl, HO, HS⟩ := hrel
    have hsz1 : w1.heap.size = wm.heap.size + 1 := by rw [HW.out.1]; simp
    have hos := HS.out.only.size
    by_cases hlt : j < n
    · have hce : ce = 0 := by
        apply Classical.byContradiction
        intro h
        have := HRp.out.2 h
        omega
      subst hce
      have hEr : EnvO wr := HE0.out.1.below (HE0.out.2.1.trans (HS.out.only.below HE0.out.2.1.size (fun k hk => by have := HE0.out.2.2; omega)))
      have k26 := take26_any R S q wr HS.out.rd HS.out.sz (by omega) hEr
      have hpl := ropF_plen q
      have hall := HS.out.all
      obtain ⟨m, hm⟩ : ∃ m, n - j = m + 1 := ⟨n - j - 1, by omega⟩
      rw [hm, rlist_succ] at hall
      generalize ropF q = T at k26 hpl hall
      obtain ⟨o, te, q'⟩ := T
      obtain ⟨p, k, ks, d, m5, t⟩ := o
      dsimp only at k26 hpl hall
      have HA := hide (And.intro hall (And.intro hpl hm))
      clear hall hpl hEr
      by_cases hte : te = 0
      · subst hte
        go_upto_region 9 with (go_at_call 26; refine k26.mono ?_; rintro e w3 ⟨pa, pc, rfl, hos3, hr3, hg3, hl3⟩; have H3 := hide (And.intro hr3 (And.intro (only_grown hg3) (And.intro hos3 hl3))); clear hos3 hr3 hg3 hl3 k26)
        obtain ⟨w4, hw4⟩ : ∃ r, r = w3.alloc (.cells (oc6 (.slice pa p.length pc) k ks d m5 t) 34) := ⟨_, rfl⟩
        rw [← hw4]
        have d4 : Below w3.heap.size w3 w4 := by rw [hw4]; exact (Below.refl _ _).alloc (Nat.le_refl _) _
        have m4 : w4.heap[w3.heap.size]? = some (.cells (oc6 (.slice pa p.length pc) k ks d m5 t) 34 (0, 0)) := by rw [hw4]; exact heap_alloc_new _ _
        obtain ⟨⟨x0, x1, x2, x3, x4, x5⟩, f0, f1, f2, f3, f4, f5⟩ := blk6 m4
        have hRs : R < w1.heap.size := by omega
        have hs3 := H3.out.2.1.size
        have hs4 := d4.size
        have hO4 : Oq w4 w1.heap.size (.slice a L.length c) L := (HO.out.only H3.out.2.1 (fun k hk e => by omega)).below d4
        have hpath : Os w4 w1.heap.size (.slice pa p.length pc) p := row_lift (H3.out.2.2.1.below d4) (by omega)
        have d5 : Below w4.heap.size w4 (w4.alloc (.cells (oc6 (.slice pa p.length pc) k ks d m5 t) 34)) := (Below.refl _ _).alloc (Nat.le_refl _) _
        have hL6 : L.length + 1 ≤ 1000000 := by have := HS.out.len; omega
        obtain ⟨v8, w8, hr8, hO8, hg8, hb8⟩ := push_op (x := (⟨p, k, ks, d, m5, t⟩, pa, pc)) (hO4.below d5) (hpath.below d5) HA.out.2.1 (heap_alloc_new w4 (.cells (oc6 (.slice pa p.length pc) k ks d m5 t) 34)) hL6 (by simp; omega)
        obtain ⟨a8, c8, rfl, -, -, -, -⟩ := hO8.shape
        have hS8 : OtL K w1 R S n q1 (j + 1) (L ++ [(⟨p, k, ks, d, m5, t⟩, pa, pc)]) q' w8 := by
          refine ⟨by omega, by rw [List.length_append, HS.out.len]; rfl, ?_, ?_, ?_, H3.out.2.2.2⟩
          · have := HA.out.1
            simp only [if_true] at this
            rw [this, show n - (j + 1) = m by have := HA.out.2.2; omega, List.map_append, List.append_assoc]
            rfl
          · exact H3.out.1.below (((d4.mono (by omega)).trans (d5.mono (by omega))).trans (hb8.mono (by omega)))
          · exact (((HS.out.only.trans H3.out.2.1 (fun _ _ e => e)).trans (Only.ofBelow d4) (fun _ _ e => e.elim)).alloc (.cells (oc6 (.slice pa p.length pc) k ks d m5 t) 34)).trans (⟨hb8.os, hb8.tape, hb8.output, hb8.size, fun k _ hn => hb8.block k (by omega)⟩ : Only (fun k => w1.heap.size ≤ k) _ _) (fun k hk e => by omega)
        have H8 := hide (And.intro hO8 hS8)
        clear hO4 hpath d5 d4 m4 hw4
        clear hO8 hS8 hg8 hb8 hL6
        go_upto_region 11 with fail
        go_wp2_with (at_builtin; refine wpList_turn (OP := .call { callee := .builtin .append, args := #[.tmp 41, .tmp 43], argTypes := #[22, 22] }) (T := 22) rfl rfl rfl (exec_append rfl rfl hr8) ?_; clear hr8)
        go_roundw
        case rel => exact ⟨j + 1, L ++ [(⟨p, k, ks, d, m5, t⟩, pa, pc)], q', a8, c8, rfl, by simp, by go_num, hide H8.out.1, hide H8.out.2⟩
        case measure => simp [intOf]; omega
      · have hte1 : (te != 0) = true := by simpa using hte
        have hrs : rlist n q1 = (L.map Prod.fst, te, q') := by have := HA.out.1; rw [if_neg hte] at this; simpa using this
        have hXX : X = ([], te, l) := by
          have := HRp.out.1
          rw [if_pos rfl, hrs] at this
          simpa [hte] using this
        have HX := hide hXX
        clear hrs hXX
        go_upto_region 9 with (go_at_call 26; refine k26.mono ?_; rintro e w3 ⟨pa, pc, rfl, hos3, hr3, hg3, hl3⟩; have H3 := hide (And.intro hr3 (only_grown hg3)); clear hos3 hr3 hg3 hl3 k26)
        obtain ⟨w4, hw4⟩ : ∃ r, r = w3.alloc (.cells (oc6 (.slice pa p.length pc) k ks d m5 t) 34) := ⟨_, rfl⟩
        rw [← hw4]
        have d4 : Below w3.heap.size w3 w4 := by rw [hw4]; exact (Below.refl _ _).alloc (Nat.le_refl _) _
        have hs3 := H3.out.2.size
        have ho4 : Only (fun k => k = R) w1 w4 := (HS.out.only.trans H3.out.2 (fun _ _ e => e)).trans (Only.ofBelow d4) (fun _ _ e => e.elim)
        have hr4 : Rdr K 77 w4 R S q' := H3.out.1.below (d4.mono (by omega))
        clear d4 hw4
        go_upto_region 14 with fail
        have mb : w4.heap[wm.heap.size]? = some (.cells #[.slice ao l.length cap, .bool true] 77 (0, 0)) := was_blk (by rw [← HW.out.1]; exact ho4) hsz
        obtain ⟨b0, b1, -, -⟩ := cell_blk mb
        obtain ⟨ao3, cap3, y0, y1, g0, g1, -, -⟩ := hr4.cells
        have hx := Rdr.restore HW.out.2.1 c0 (grown_only (((Only.refl _ wm).alloc (.cells #[.slice ao l.length cap, .bool true] 77)).trans (by rw [← HW.out.1]; exact ho4) (fun _ _ e => e))) hr4
        have HXX := hide hx
        clear hx mb ho4 hr4
        go_wp2
        unfold Exit.noGoto
        try dsimp only
        go_ret2
        rw [HX.out]
        exact ⟨_, rfl, ⟨[], rfl, Oq.nil _ _⟩, HXX.out⟩
    · have hjn : n = j := by have := HS.out.le; omega
      have hfin : rlist n q1 = (L.map Prod.fst, 0, q) := by
        have := HS.out.all
        rw [show n - j = 0 by omega] at this
        simpa [rlist] using this
      by_cases hce : ce = 0
      · have hXX : X = (L.map Prod.fst, 0, q) := by
          have := HRp.out.1
          rw [if_pos hce, hfin] at this
          simpa using this
        have HX := hide hXX
        subst hce
        clear hfin hXX
        go_wp2
        go_ret2
        rw [HX.out]
        exact ⟨_, rfl, ⟨L, rfl, HO.out.lift (by omega)⟩, HS.out.rd, grown_only (((Only.refl _ wm).alloc (.cells #[.slice ao l.length cap, .bool true] 77)).trans (by rw [← HW.out.1]; exact HS.out.only) (fun _ _ e => e))⟩
      · have hce1 : (ce != 0) = true := by simpa using hce
        have hXX : X = ([], ce, l) := by
          have := HRp.out.1
          rw [if_neg hce] at this
          exact this
        have HX := hide hXX
        clear hXX hfin
        have mb : wr.heap[wm.heap.size]? = some (.cells #[.slice ao l.length cap, .bool true] 77 (0, 0)) := was_blk (by rw [← HW.out.1]; exact HS.out.only) hsz
        obtain ⟨b0, b1, -, -⟩ := cell_blk mb
        obtain ⟨ao3, cap3, y0, y1, g0, g1, -, -⟩ := HS.out.rd.cells
        have hx := Rdr.restore HW.out.2.1 c0 (grown_only (((Only.refl _ wm).alloc (.cells #[.slice ao l.length cap, .bool true] 77)).trans (by rw [← HW.out.1]; exact HS.out.only) (fun _ _ e => e))) HS.out.rd
        have HXX := hide hx
        clear hx mb
        go_wp2
        unfold Exit.noGoto
        try dsimp only
        go_ret2
        rw [HX.out]
        exact ⟨_, rfl, ⟨[], rfl, Oq.nil _ _⟩, HXX.out⟩

set_option maxHeartbeats 1000000 in
set_option maxRecDepth 100000 in
theorem takeAll67_any (R S : Nat) (l : List Int) (w : World) (hR : Rdr K 77 w R S l) (hl47 : l.length ≤ 140737488355328) (hSw : S ≤ w.heap.size) (w0 : World) (hE : EnvO w0) (hB0 : Below w0.heap.size w0 w) (hR0 : w0.heap.size ≤ R) :
    Calls Tryz.prog 67 #[.pointer (some ⟨R, 0, none⟩)] w fun e w' => ∃ v, e = .returned (.tuple #[v, .int .i64 (rops l).2.1]) ∧ (∃ xs, xs.map Prod.fst = (rops l).1 ∧ Oq w' w.heap.size v xs) ∧ Rdr K 77 w' R S (rops l).2.2 ∧ w.grownBy w' (some R) := by
  have k := take110_any R S l w hR hl47 hSw w0 hE hB0 hR0
  generalize rops l = X at k ⊢
  obtain ⟨o, er, q⟩ := X
  dsimp only at k ⊢
  go_enter Tryz.func67, Tryz.ntmps67
  go_wp2_with (go_at_call 110; refine k.mono ?_; rintro e w2 ⟨v, rfl, h2⟩; have H2 := hide h2; clear h2)
  go_ret2
  exact ⟨v, rfl, H2.out⟩

/-- What reading all of it answers. -/
def readA (l : List Int) : List Od × Int := if (rops l).2.1 = 0 ∧ (rops l).2.2 = [] then ((rops l).1, 0) else ([], 4)

set_option maxHeartbeats 2000000 in
set_option maxRecDepth 100000 in
theorem readAll24_any (ao : Option Addr) (cap n : Nat) (l : List Int) (w : World) (hn : l.length = n) (hr : Rd w ao l) (hnil : ao = none → cap = 0) (hl : l.length ≤ 140737488355328) (h8 : ∀ x ∈ l, 0 ≤ x ∧ x ≤ 255) (hE : EnvO w) :
    Calls Tryz.prog 24 #[.slice ao n cap] w fun e w' => ∃ v, e = .returned (.tuple #[v, .int .i64 (readA l).2]) ∧ (∃ xs, xs.map Prod.fst = (readA l).1 ∧ Oq w' w.heap.size v xs) ∧ Below w.heap.size w w' := by
  have k25 := open_any ao cap n l w hn hr hnil hl h8
  have hA : readA l = if (rops l).2.1 = 0 ∧ (rops l).2.2 = [] then ((rops l).1, 0) else ([], 4) := rfl
  have HE := hide (And.intro hE hl)
  obtain ⟨X, hX⟩ : ∃ r, r = readA l := ⟨_, rfl⟩
  rw [← hX] at hA ⊢
  obtain ⟨Z, hZ⟩ : ∃ r, r = rops l := ⟨_, rfl⟩
  rw [← hZ] at hA
  have HA := hide (And.intro hA hZ)
  clear hX hA hZ hr hn hnil hl h8 hE
  obtain ⟨o, er, q⟩ := Z
  have k66 : Calls Tryz.prog 66 #[.slice ao n cap, .func (.func 67) #[] #[]] w fun e w' => ∃ v, e = .returned (.tuple #[v, .int .i64 X.2]) ∧ (∃ xs, xs.map Prod.fst = X.1 ∧ Oq w' w.heap.size v xs) ∧ Below w.heap.size w w' := by
    go_enter Tryz.func66, Tryz.ntmps66
    go_upto_region 2 with (go_at_call 25; refine k25.mono ?_; rintro e w1 ⟨R, rfl, hR1, gR, gs, hb1⟩)
    have k67 := takeAll67_any R (R + 1) l w1 hR1 HE.out.2 (by omega) w HE.out.1 hb1 gR
    rw [← HA.out.2] at k67
    dsimp only at k67
    have H1 := hide (And.intro hb1 (And.intro gR gs))
    clear hb1 gR gs hR1
    go_upto_region 3 with (go_at_call 67; refine k67.mono ?_; rintro e w2 ⟨v, rfl, hxs, hR2, hg2⟩; have H2 := hide (And.intro hxs (And.intro hR2 hg2)); clear hxs hR2 hg2 k67)
    have hb2 : Below w.heap.size w w2 := H1.out.1.trans ((only_grown H2.out.2.2).below H1.out.1.size (fun j hj => by have := H1.out.2.1; omega))
    have HB := hide hb2
    have k69 := end_any R (R + 1) q w2 H2.out.2.1
    clear hb2
    by_cases her : er = 0
    · subst her
      by_cases hq : q = []
      · subst hq
        have hX : X = (o, 0) := by have := HA.out.1; simpa using this
        have HX := hide hX
        clear hX
        have hee : endE [] = 0 := rfl
        rw [hee] at k69
        go_wp2_with (go_at_call 69; refine k69.mono ?_; rintro e wm ⟨rfl, hm⟩; have hm := hm.symm; subst hm)
        go_ret2
        rw [HX.out]
        obtain ⟨xs, h1, h2⟩ := H2.out.1
        exact ⟨v, rfl, ⟨xs, h1, h2.lift H1.out.1.size⟩, HB.out⟩
      · have hX : X = ([], 4) := by have := HA.out.1; simpa [hq] using this
        have HX := hide hX
        clear hX
        have hee : endE q = 4 := if_neg hq
        rw [hee] at k69
        go_wp2_with (go_at_call 69; refine k69.mono ?_; rintro e wm ⟨rfl, hm⟩; have hm := hm.symm; subst hm)
        go_ret2
        rw [HX.out]
        exact ⟨_, rfl, ⟨[], rfl, Oq.nil _ _⟩, HB.out⟩
    · have her1 : (er != 0) = true := by simpa using her
      have hX : X = ([], 4) := by have := HA.out.1; simpa [her] using this
      have HX := hide hX
      clear hX
      go_wp2_with (go_at_call 69; refine k69.mono ?_; rintro e wm ⟨rfl, hm⟩; have hm := hm.symm; subst hm)
      go_ret2
      rw [HX.out]
      exact ⟨_, rfl, ⟨[], rfl, Oq.nil _ _⟩, HB.out⟩
  clear k25 HA
  obtain ⟨o, er⟩ := X
  dsimp only at k66 ⊢
  go_enter Tryz.func24, Tryz.ntmps24
  go_wp2_with (go_at_call 66; refine k66.mono ?_; rintro e w2 ⟨v, rfl, h2⟩; have H2 := hide h2; clear h2)
  go_ret2
  exact ⟨v, rfl, H2.out⟩
end Go.Proofs.YtpepgoelnagoaaaGreatDoor
namespace Go.Proofs.YtpepgoelnagoaaaGreatDoor
open Go.RowKit Go.Shelf
set_option linter.unusedSimpArgs false
set_option linter.unusedVariables false

theorem rnum_form (m : Nat) (rest : List Int) (h : m < 18446744073709551616) : rnum (Plain.numL m ++ rest) = (m, 0, rest) := by
  have := Plain.readN_form m 0 0 rest (by omega) (by simp) (fun h => by omega) (by simpa using h)
  have h2 : Plain.readN 0 0 (Plain.numL m ++ rest) = some (m, (Plain.numL m).length) := by simpa using this
  rw [rnum_some h2, List.drop_left]
theorem rcount_form (most : Int) (m : Nat) (rest : List Int) (h : (m : Int) ≤ most) (h2 : m < 18446744073709551616) : rcount most (Plain.numL m ++ rest) = ((m : Int), 0, rest) := by
  have := Plain.readN_form m 0 0 rest (by omega) (by simp) (fun h => by omega) (by simpa using h2)
  have h3 : Plain.readN 0 0 (Plain.numL m ++ rest) = some (m, (Plain.numL m).length) := by simpa using this
  unfold rcount
  rw [if_neg (by omega), h3]
  dsimp only
  rw [if_neg (by omega), List.drop_left]
theorem rbytes_form (most : Int) (b rest : List Int) (h : (b.length : Int) ≤ most) (h2 : b.length < 18446744073709551616) : rbytes most (Plain.numL b.length ++ (b ++ rest)) = (b, 0, rest) := by
  have hc := rcount_form most b.length (b ++ rest) h h2
  unfold rbytes
  rw [hc]
  dsimp only
  rw [if_pos rfl, if_neg (by rw [List.length_append]; omega), Int.toNat_natCast, List.take_left, List.drop_left]
theorem str_ints' (s : ByteArray) : strOfNums (ints s.data.toList) = s := by
  rw [str_ints]
theorem rtext_form (most : Int) (s : ByteArray) (rest : List Int) (h : (s.size : Int) ≤ most) (h2 : s.size < 18446744073709551616) : rtext most (frB s ++ rest) = (s, 0, rest) := by
  have hl : (ints s.data.toList).length = s.size := by rw [ints_length, Lib.size_eq]
  have := rbytes_form most (ints s.data.toList) rest (by rw [hl]; exact h) (by rw [hl]; exact h2)
  rw [hl] at this
  unfold rtext frB
  rw [List.append_assoc, this]
  dsimp only
  rw [str_ints']
theorem rstrs_form : ∀ (p : List ByteArray) (rest : List Int), (∀ s ∈ p, s.size ≤ 64) → rstrs p.length (p.flatMap frB ++ rest) = (p, 0, rest)
  | [], rest, _ => rfl
  | s :: p, rest, h => by
    have h1 := h s (by simp)
    have ih := rstrs_form p rest (fun x hx => h x (List.mem_cons_of_mem _ hx))
    rw [List.length_cons, rstrs_succ, List.flatMap_cons, List.append_assoc, rtext_form 64 s _ (by omega) (by omega)]
    dsimp only
    rw [if_pos rfl, ih]
theorem rpath_form (p : List ByteArray) (rest : List Int) (hl : p.length ≤ 6) (h : ∀ s ∈ p, s.size ≤ 64) : rpath (frP p ++ rest) = (p, 0, rest) := by
  have hc := rcount_form 6 p.length (p.flatMap frB ++ rest) (by omega) (by omega)
  unfold rpath frP
  rw [List.append_assoc, hc]
  dsimp only
  rw [if_pos rfl, Int.toNat_natCast, rstrs_form p rest h]
  rfl
theorem unfold_fold (n : Int) : unfoldN (Plain.fold n) = n := by
  unfold unfoldN
  by_cases h : n < 0
  · have := Plain.fold_neg h
    rw [if_pos (by omega)]
    omega
  · have := Plain.fold_pos h
    rw [if_neg (by omega)]
    omega
theorem fmN_form (n : Int) (rest : List Int) (h : I64 n) : fmN (Plain.numL (Plain.fold n) ++ rest) = (n, 0, rest) := by
  have hr := rnum_form (Plain.fold n) rest (Plain.fold_lt n h.1 h.2)
  rw [fmN_is (by rw [hr]; exact Plain.fold_lt n h.1 h.2), hr]
  dsimp only
  rw [unfold_fold]
theorem fmD_form (d : Int) (rest : List Int) (h0 : 0 ≤ d) (h7 : d ≤ 7) : fmD (Plain.numL d.toNat ++ rest) = (d, 0, rest) := by
  have hr := rnum_form d.toNat rest (by omega)
  unfold fmD
  rw [hr]
  dsimp only
  rw [if_neg (by omega), if_neg (by omega)]
  congr 1
  omega
/-- An operation's form reads back. -/
theorem rdO_form {o : Od} (ho : OkO o) (hn : I64 o.n) (rest : List Int) : rdO fmZ (frO o ++ rest) = (o, 0, rest) := by
  have hd := fmD_form o.d (frP o.p ++ (frB o.s ++ (frN o ++ rest))) (by have := ho.d1; omega) ho.d7
  have hp := rpath_form o.p (frB o.s ++ (frN o ++ rest)) ho.psz.1 ho.psz.2
  have hs := rtext_form 64 o.s (frN o ++ rest) (by have := ho.ssz; omega) (by have := ho.ssz; omega)
  have e1 : fld fmZ.pd 0 0 (frO o ++ rest) = (o.d, 0, frP o.p ++ (frB o.s ++ (frN o ++ rest))) := by
    have : frO o ++ rest = Plain.numL o.d.toNat ++ (frP o.p ++ (frB o.s ++ (frN o ++ rest))) := by unfold frO; simp only [List.append_assoc]
    rw [this]; exact hd
  have e2 : fld fmZ.pp [] 0 (frP o.p ++ (frB o.s ++ (frN o ++ rest))) = (o.p, 0, frB o.s ++ (frN o ++ rest)) := hp
  have e3 : fld fmZ.pk ⟨#[]⟩ 0 (frB o.s ++ (frN o ++ rest)) = (o.s, 0, frN o ++ rest) := hs
  have h3 : rd3 fmZ (frO o ++ rest) = ((o.d, o.p, o.s), 0, frN o ++ rest) := by
    unfold rd3
    rw [e1]
    dsimp only
    rw [e2]
    dsimp only
    rw [e3]
  have h4 : rd4 fmZ o.d 0 (frN o ++ rest) = ((o.n, o.t), 0, rest) := by
    unfold rd4 frN
    by_cases h1 : o.d = 1
    · have := fmN_form o.n rest hn
      have e4 : fld fmZ.pn 0 0 (Plain.numL (Plain.fold o.n) ++ rest) = (o.n, 0, rest) := this
      rw [if_pos h1, if_pos h1, e4, ho.add h1]
    · by_cases h6 : o.d = 6
      · rw [if_neg h1, if_pos h6, if_neg h1, if_pos h6, ho.num h1, ho.pop h6]
        rfl
      · have := rtext_form 256 o.t rest (by have := ho.text; omega) (by have := ho.text; omega)
        have e4 : fld fmZ.pt ⟨#[]⟩ 0 (frB o.t ++ rest) = (o.t, 0, rest) := this
        rw [if_neg h1, if_neg h6, if_neg h1, if_neg h6, e4, ho.num h1]
  unfold rdO
  rw [h3]
  dsimp only
  rw [h4]
  dsimp only
  rw [← ho.kind]
theorem ropF_form {o : Od} (hc : chkO o = 0) (hn : I64 o.n) (rest : List Int) : ropF (frO o ++ rest) = (o, 0, rest) := by
  have h := rdO_form (ok_of hc) hn rest
  have hr : readS fmZ (frO o ++ rest) = (o, 0) := by
    unfold readS
    rw [h]
    dsimp only
    rw [if_pos ⟨rfl, hc⟩]
  unfold ropF
  rw [hr, h]
  rfl
end Go.Proofs.YtpepgoelnagoaaaGreatDoor
