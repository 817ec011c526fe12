/-
  OPS, forms: wire.Take[string] 227 over takeKey; the method path 223.
  THE WALK over the program's Split.
  OPS: the words of a text, told by a closure (pieces 76, 117), and what they say: word 235, do 230, key 231, number 232, path 233, text 234.
  OPS: pieces 76, word 235, do 230, text 234, key 231, path 233, number 232: the source 'spoken'.
-/
import Derived.Test.YtpepgoelnagoaaaGreatDoorMg14
import Derived.Test.YtpepgoelnagoaaaGreatDoorMg12
import Derived.Test.YtpepgoelnagoaaaGreatDoorMg3
import Derived.Test.YtpepgoelnagoaaaGreatDoorMg7
import Derived.WalkMore
import Derived.Scope
import Derived.Test.YtpepgoelnagoaaaGreatDoorMg5
import Derived.Lib.IndexMore
import Derived.Test.YtpepgoelnagoaaaGreatDoorMg6
namespace Go.Proofs.YtpepgoelnagoaaaGreatDoor
open Go.RowKit Go.Shelf
variable {K : Nat → Prop}
set_option linter.unusedSimpArgs false
set_option linter.unusedVariables false
attribute [local go_sem] Oper.semAt_some

/-- Reading texts in a row, till one is wrong. -/
def rstrs : Nat → List Int → List ByteArray × Int × List Int
  | 0, q => ([], 0, q)
  | n + 1, q => if (rtext 64 q).2.1 = 0 then ((rtext 64 q).1 :: (rstrs n (rtext 64 q).2.2).1, (rstrs n (rtext 64 q).2.2).2.1, (rstrs n (rtext 64 q).2.2).2.2) else ([], (rtext 64 q).2.1, (rtext 64 q).2.2)
theorem rstrs_succ (n : Nat) (q : List Int) : rstrs (n + 1) q = if (rtext 64 q).2.1 = 0 then ((rtext 64 q).1 :: (rstrs n (rtext 64 q).2.2).1, (rstrs n (rtext 64 q).2.2).2.1, (rstrs n (rtext 64 q).2.2).2.2) else ([], (rtext 64 q).2.1, (rtext 64 q).2.2) := rfl
/-- What reading a path answers. -/
def rpath (q : List Int) : List ByteArray × Int × List Int :=
  if (rcount 6 q).2.1 = 0 then (if (rstrs (rcount 6 q).1.toNat (rcount 6 q).2.2).2.1 = 0 then rstrs (rcount 6 q).1.toNat (rcount 6 q).2.2 else ([], (rstrs (rcount 6 q).1.toNat (rcount 6 q).2.2).2.1, q)) else ([], (rcount 6 q).2.1, q)
theorem grown_only {w w' : World} {R : Nat} (h : Only (fun j => j = R) w w') : w.grownBy w' (some R) := ⟨h.os, h.tape, h.output, h.size, fun k hk hn => h.block k hk (fun e => hn (by rw [e]))⟩
theorem only_grown {w w' : World} {R : Nat} (h : w.grownBy w' (some R)) : Only (fun j => j = R) w w' := (Only.ofGrown h).mono (fun _ _ e => by simpa using e.symm)
theorem was_blk {t : TypeId} {w w1 : World} {R : Nat} {x y : Value} (hg : Only (fun j => j = R) (w.alloc (.cells #[x, y] t)) w1) (hR : R < w.heap.size) : w1.heap[w.heap.size]? = some (.cells #[x, y] t (0, 0)) := by
  rw [hg.block w.heap.size (by simp) (by omega)]
  exact heap_alloc_new w _
theorem Os.grown {w w' : World} {B R : Nat} {v : Value} {L : List ByteArray} (h : Os w B v L) (hg : Only (fun j => j = R) w w') (hR : R < B) : Os w' B v L := h.only hg (fun k hk e => by have := (World.ownsRow.lt h k hk).1; omega)
/-- How far texts are read. -/
structure StL (K : Nat → Prop) (w1 : World) (R S n : Nat) (q1 : List Int) (j : Nat) (L : List ByteArray) (q : List Int) (W : World) : Prop where
  le : j ≤ n
  len : L.length = j
  all : rstrs n q1 = (L ++ (rstrs (n - j) q).1, (rstrs (n - j) q).2.1, (rstrs (n - j) q).2.2)
  rd : Rdr K 77 W R S q
  only : Only (fun k => k = R) w1 W
  sz : q.length ≤ 140737488355328

set_option maxHeartbeats 4000000 in
set_option maxRecDepth 100000 in
theorem strs227_any (R S : Nat) (l : List Int) (w : World) (hR : Rdr K 77 w R S l) (hl47 : l.length ≤ 140737488355328) (hSw : S ≤ w.heap.size) :
    Calls Tryz.prog 227 #[.pointer (some ⟨R, 0, none⟩), .int .i64 6, .func (.func 225) #[] #[]] w fun e w' => ∃ v, e = .returned (.tuple #[v, .int .i64 (rpath l).2.1]) ∧ Os w' w.heap.size v (rpath l).1 ∧ Rdr K 77 w' R S (rpath l).2.2 ∧ w.grownBy w' (some R) := by
  obtain ⟨ao, cap, c0, c1, f0, f1, hsz, hl⟩ := hR.cells
  obtain ⟨w1, hw1⟩ : ∃ r, r = w.alloc (.cells #[.slice ao l.length cap, .bool true] 77) := ⟨_, rfl⟩
  have hR1 : Rdr K 77 w1 R S l := by rw [hw1]; exact hR.kept (World.grownBy_alloc w _ none) (by simp)
  have k147 := rcount_any R S 6 l w1 hR1 (by omega)
  have h6 := rcount_le (most := 6) (l := l) (by omega)
  have hn0 := rcount_nonneg 6 l
  have hle := rcount_left 6 l
  have hrp : rpath l = if (rcount 6 l).2.1 = 0 then (if (rstrs (rcount 6 l).1.toNat (rcount 6 l).2.2).2.1 = 0 then rstrs (rcount 6 l).1.toNat (rcount 6 l).2.2 else ([], (rstrs (rcount 6 l).1.toNat (rcount 6 l).2.2).2.1, l)) else ([], (rcount 6 l).2.1, l) := rfl
  have he := rcount_err (most := 6) (l := l)
  have hz : (rcount 6 l).2.1 ≠ 0 → (rcount 6 l).1 = 0 := by
    unfold rcount
    rw [if_neg (by omega)]
    split
    · simp
    · split
      · simp
      · simp
  obtain ⟨X, hX⟩ : ∃ r, r = rpath l := ⟨_, rfl⟩
  rw [← hX] at hrp ⊢
  clear hX
  generalize rcount 6 l = C at k147 h6 hn0 hle hrp he hz
  obtain ⟨cn, ce, q1⟩ := C
  dsimp only at k147 h6 hn0 hle hrp he hz
  obtain ⟨n, rfl⟩ := Int.eq_ofNat_of_zero_le hn0
  have hn6 : n ≤ 6 := by omega
  rw [show ((n : Int)).toNat = n from rfl] at hrp
  have HRp := hide (And.intro hrp hz)
  have HW := hide (And.intro hw1 (And.intro hR hle))
  have km := missing_no R w c1
  have hnf : ∀ W, (binOp BinOp.eql 272 (.func (.func 225) #[] #[]) Value.nilFunc).run Tryz.prog W = .ok (.bool false) W := fun _ => rfl
  clear hrp h6 hn0 hle he hz hw1
  go_enter Tryz.func227, Tryz.ntmps227
  go_upto_region 1 with fail
  go_step3
  go_upto_region 3 with (go_at_call 75; refine km.mono ?_; rintro e wm ⟨rfl, hm⟩; have hm := hm.symm; subst hm)
  go_upto_region 4 with fail
  rw [← HW.out.1]
  go_upto_region 6 with (go_at_call 147; refine k147.mono ?_; rintro e w2 ⟨rfl, hr2, hg2⟩; have H2 := hide (And.intro hr2 (only_grown hg2)); clear hr2 hg2 k147)
  go_step3
  go_wp2
  have h11 : StL K w1 R S n q1 0 [] q1 w2 := ⟨Nat.zero_le _, rfl, by simp, H2.out.1, H2.out.2, Nat.le_trans HW.out.2.2 hl47⟩
  have H11 := hide h11
  clear h11
  go_loopw [10, 11, 30] (fun v10 v11 v30 wr => ∃ (j : Nat) (L : List ByteArray) (q : List Int) (a : Option Addr) (c : Nat), v10 = .int .i64 ce ∧ v11 = .slice a L.length c ∧ v30 = .int .i64 (j : Nat) ∧ Hid (Os wr w1.heap.size (.slice a L.length c) L) ∧ Hid (StL K w1 R S n q1 j L q wr))
    (fun _ _ v30 _ => n - (intOf v30).toNat)
  case atStart => exact ⟨0, [], q1, none, 0, rfl, rfl, rfl, hide (Os.nil _ _), H11⟩
  case round =>
    obtain ⟨j, L, q, a, c, rfl, rfl, rfl, HO, HS⟩ := hrel
    have hsz1 : w1.heap.size = wm.heap.size + 1 := by rw [HW.out.1]; simp
    have hos := HS.out.only.size
    by_cases hlt : j < n
    · have hce : ce = 0 := by
        apply Classical.byContradiction
        intro h
        have := HRp.out.2 h
        omega
      subst hce
      have k225 := takeKey_any R S q wr HS.out.rd HS.out.sz
      have hql := rbytes_left 64 q
      have hT : rtext 64 q = (strOfNums (rbytes 64 q).1, (rbytes 64 q).2.1, (rbytes 64 q).2.2) := rfl
      have hall := HS.out.all
      obtain ⟨m, hm⟩ : ∃ m, n - j = m + 1 := ⟨n - j - 1, by omega⟩
      rw [hm, rstrs_succ] at hall
      change (rtext 64 q).2.2.length ≤ q.length at hql
      clear hT
      generalize rtext 64 q = T at k225 hql hall
      obtain ⟨ts, te, q'⟩ := T
      dsimp only at k225 hql hall
      have HA := hide (And.intro hall (And.intro hql hm))
      clear hall hql
      by_cases hte : te = 0
      · subst hte
        go_upto_region 11 with (go_at_call 225; refine k225.mono ?_; rintro e w3 ⟨rfl, hr3, hg3⟩; have H3 := hide (And.intro hr3 (only_grown hg3)); clear hr3 hg3 k225)
        have hRs : R < w1.heap.size := by omega
        have hO3 := HO.out.grown H3.out.2 hRs
        have d3 : Below w3.heap.size w3 (w3.alloc (.cells #[.string ts] 9)) := (Below.refl _ _).alloc (Nat.le_refl _) _
        have hs3 := H3.out.2.size
        have hL6 : L.length + 1 ≤ 1000000 := by have := HS.out.len; omega
        obtain ⟨v8, w8, hr8, hO8, hg8, hb8⟩ := push_str (hO3.below d3) (heap_alloc_new w3 (.cells #[.string ts] 9)) hL6 (by simp; omega)
        obtain ⟨a8, c8, rfl, -, -, -, -⟩ := hO8.shape
        have hS8 : StL K w1 R S n q1 (j + 1) (L ++ [ts]) q' w8 := by
          refine ⟨by omega, by rw [List.length_append, HS.out.len]; rfl, ?_, ?_, ?_, Nat.le_trans HA.out.2.1 HS.out.sz⟩
          · have := HA.out.1
            simp only [if_true] at this
            rw [this, show n - (j + 1) = m by have := HA.out.2.2; omega, List.append_assoc]
            rfl
          · exact H3.out.1.below ((d3.mono (by omega)).trans (hb8.mono (by omega)))
          · exact ((HS.out.only.trans H3.out.2 (fun _ _ e => e)).alloc (.cells #[.string ts] 9)).trans (⟨hb8.os, hb8.tape, hb8.output, hb8.size, fun k _ hn => hb8.block k (by omega)⟩ : Only (fun k => w1.heap.size ≤ k) _ _) (fun k hk e => by omega)
        have H8 := hide (And.intro hO8 hS8)
        clear hO8 hS8 hO3 d3 hg8 hb8 hL6
        go_wp2_with (at_builtin; refine wpList_turn (OP := .call { callee := .builtin .append, args := #[.tmp 41, .tmp 43], argTypes := #[30, 30] }) (T := 30) rfl rfl rfl (exec_append rfl rfl hr8) ?_; clear hr8)
        go_roundw
        case rel => exact ⟨j + 1, L ++ [ts], q', a8, c8, rfl, by simp, by go_num, hide H8.out.1, hide H8.out.2⟩
        case measure => simp [intOf]; omega
      · have hte1 : (te != 0) = true := by simpa using hte
        have hrs : rstrs n q1 = (L, te, q') := by have := HA.out.1; rw [if_neg hte] at this; simpa using this
        have hXX : X = ([], te, l) := by
          have := HRp.out.1
          rw [if_pos rfl, hrs] at this
          simpa [hte] using this
        have HX := hide hXX
        clear hrs hXX
        go_upto_region 14 with (go_at_call 225; refine k225.mono ?_; rintro e w3 ⟨rfl, hr3, hg3⟩; have H3 := hide (And.intro hr3 (only_grown hg3)); clear hr3 hg3 k225)
        have ho3 : Only (fun k => k = R) w1 w3 := HS.out.only.trans H3.out.2 (fun _ _ e => e)
        have mb : w3.heap[wm.heap.size]? = some (.cells #[.slice ao l.length cap, .bool true] 77 (0, 0)) := was_blk (by rw [← HW.out.1]; exact ho3) hsz
        obtain ⟨b0, b1, -, -⟩ := cell_blk mb
        obtain ⟨ao3, cap3, y0, y1, g0, g1, -, -⟩ := H3.out.1.cells
        have hx := Rdr.restore HW.out.2.1 c0 (grown_only (((Only.refl _ wm).alloc (.cells #[.slice ao l.length cap, .bool true] 77)).trans (by rw [← HW.out.1]; exact ho3) (fun _ _ e => e))) H3.out.1
        have HXX := hide hx
        clear hx mb
        go_wp2
        unfold Exit.noGoto
        dsimp only
        go_ret2
        rw [HX.out]
        exact ⟨_, rfl, Os.nil _ _, HXX.out⟩
    · have hjn : n = j := by have := HS.out.le; omega
      have hfin : rstrs n q1 = (L, 0, q) := by
        have := HS.out.all
        rw [show n - j = 0 by omega] at this
        simpa [rstrs] using this
      by_cases hce : ce = 0
      · have hXX : X = (L, 0, q) := by
          have := HRp.out.1
          rw [if_pos hce, hfin] at this
          simpa using this
        have HX := hide hXX
        subst hce
        clear hfin hXX
        go_wp2
        go_ret2
        rw [HX.out]
        exact ⟨_, rfl, row_lift HO.out (by omega), HS.out.rd, grown_only (((Only.refl _ wm).alloc (.cells #[.slice ao l.length cap, .bool true] 77)).trans (by rw [← HW.out.1]; exact HS.out.only) (fun _ _ e => e))⟩
      · have hce1 : (ce != 0) = true := by simpa using hce
        have hXX : X = ([], ce, l) := by
          have := HRp.out.1
          rw [if_neg hce] at this
          exact this
        have HX := hide hXX
        clear hXX hfin
        have mb : wr.heap[wm.heap.size]? = some (.cells #[.slice ao l.length cap, .bool true] 77 (0, 0)) := was_blk (by rw [← HW.out.1]; exact HS.out.only) hsz
        obtain ⟨b0, b1, -, -⟩ := cell_blk mb
        obtain ⟨ao3, cap3, y0, y1, g0, g1, -, -⟩ := HS.out.rd.cells
        have hx := Rdr.restore HW.out.2.1 c0 (grown_only (((Only.refl _ wm).alloc (.cells #[.slice ao l.length cap, .bool true] 77)).trans (by rw [← HW.out.1]; exact HS.out.only) (fun _ _ e => e))) HS.out.rd
        have HXX := hide hx
        clear hx mb
        go_wp2
        unfold Exit.noGoto
        dsimp only
        go_ret2
        rw [HX.out]
        exact ⟨_, rfl, Os.nil _ _, HXX.out⟩
theorem rstrs_len : ∀ (n : Nat) (q : List Int), (rstrs n q).1.length ≤ n ∧ (rstrs n q).2.2.length ≤ q.length
  | 0, q => ⟨Nat.le_refl _, Nat.le_refl _⟩
  | n + 1, q => by
    have h := rbytes_left 64 q
    change (rtext 64 q).2.2.length ≤ q.length at h
    rw [rstrs_succ]
    split
    · obtain ⟨h1, h2⟩ := rstrs_len n (rtext 64 q).2.2
      exact ⟨by simpa using h1, Nat.le_trans h2 h⟩
    · exact ⟨by simp, h⟩
theorem rpath_len (q : List Int) : (rpath q).1.length ≤ 6 ∧ (rpath q).2.2.length ≤ q.length := by
  have h1 := rcount_le (most := 6) (l := q) (by omega)
  have h2 := rcount_left 6 q
  have h3 := rstrs_len (rcount 6 q).1.toNat (rcount 6 q).2.2
  unfold rpath
  split
  · split
    · exact ⟨by omega, Nat.le_trans h3.2 h2⟩
    · simp
  · simp

set_option maxHeartbeats 1000000 in
set_option maxRecDepth 100000 in
theorem fmpath_st {w0 : World} {R : Nat} {q : List Int} {W : World} (hi : FmIn w0 R) (h : FmSt K w0 R q W) :
    Calls Tryz.prog 223 #[fmV R] W fun e w' => ∃ x, e = .returned (.tuple #[x, .int .i64 (rpath q).2.1]) ∧ Os w' W.heap.size x (rpath q).1 ∧ FmSt K w0 R (rpath q).2.2 w' ∧ Only (fun j => j = R) W w' := by
  obtain ⟨W1, hW1⟩ : ∃ r, r = W.alloc (.cells #[fmP R] 102) := ⟨_, rfl⟩
  have d1 : Below W.heap.size W W1 := by rw [hW1]; exact (Below.refl _ W).alloc (Nat.le_refl _) _
  have k := strs227_any R (R + 1) q W1 (h.below hi (d1.mono h.le)).rd h.len (Nat.le_trans h.le d1.size)
  have c0 : W1.cell? ⟨W.heap.size, 0, none⟩ = some (fmP R) := by rw [hW1]; exact box102
  have hle : (rpath q).2.2.length ≤ q.length := (rpath_len q).2
  have hst := fun w2 hp hg => FmSt.step (q' := (rpath q).2.2) (w2 := w2) hi h d1 hp hg hle
  generalize rpath q = Z at k hst ⊢
  obtain ⟨n, er, l'⟩ := Z
  dsimp only at k hst ⊢
  have HW := hide (And.intro hW1 (And.intro hst d1.size))
  clear h hi d1 hst hW1 hle
  go_enter Tryz.func223, Tryz.ntmps223
  go_upto_region 1 with fail
  rw [← HW.out.1]
  go_wp2_with (go_at_call 227; refine k.mono ?_; rintro e w2 ⟨v, rfl, hos, hp, hg⟩; have H2 := hide (And.intro (HW.out.2.1 w2 hp hg) hos); clear hp hg hos)
  go_ret2
  exact ⟨_, rfl, row_lift H2.out.2 HW.out.2.2, H2.out.1⟩

/-- The source 'formed'. -/
def fmS (K : Nat → Prop) (w0 : World) (R : Nat) : Src (List Int) where
  T := 102
  v := fmV R
  fd := 220
  fp := 223
  fk := 221
  fn := 222
  ft := 224
  D := fun j => j = R
  B := R + 1
  St := FmSt K w0 R
  pd := fmD
  pp := rpath
  pk := rtext 64
  pn := fmN
  pt := rtext 256
  okn := fun _ => True
theorem enters220 : Enters Tryz.prog 220 := enters_of Tryz.func220 (by kernel_rfl) rfl
theorem enters221 : Enters Tryz.prog 221 := enters_of Tryz.func221 (by kernel_rfl) rfl
theorem enters222 : Enters Tryz.prog 222 := enters_of Tryz.func222 (by kernel_rfl) rfl
theorem enters223 : Enters Tryz.prog 223 := enters_of Tryz.func223 (by kernel_rfl) rfl
theorem enters224 : Enters Tryz.prog 224 := enters_of Tryz.func224 (by kernel_rfl) rfl
theorem fmMd (R : Nat) (W : World) : (method 385 102 (fmV R) "estuary/ops.do").run Tryz.prog W = .ok (220, fmV R) W := by kernel_rfl
theorem fmMp (R : Nat) (W : World) : (method 385 102 (fmV R) "estuary/ops.path").run Tryz.prog W = .ok (223, fmV R) W := by kernel_rfl
theorem fmMk (R : Nat) (W : World) : (method 385 102 (fmV R) "estuary/ops.key").run Tryz.prog W = .ok (221, fmV R) W := by kernel_rfl
theorem fmMn (R : Nat) (W : World) : (method 385 102 (fmV R) "estuary/ops.number").run Tryz.prog W = .ok (222, fmV R) W := by kernel_rfl
theorem fmMt (R : Nat) (W : World) : (method 385 102 (fmV R) "estuary/ops.text").run Tryz.prog W = .ok (224, fmV R) W := by kernel_rfl
theorem fmOk {w0 : World} {R : Nat} (hi : FmIn w0 R) : SrcOk (fmS K w0 R) where
  lt := fun j h => by have h : j = R := h; show j < R + 1; omega
  le := fun q W h => FmSt.le h
  stable := fun q W W' h hb => FmSt.below hi h hb
  env := fun q W h => FmSt.env hi h
  qd := fmMd R
  qp := fmMp R
  qk := fmMk R
  qn := fmMn R
  qt := fmMt R
  ed := enters220
  ep := enters223
  ek := enters221
  en := enters222
  et := enters224
  cd := fun q W h => fmdo_st hi h
  cp := fun q W h => fmpath_st hi h
  ck := fun q W h => fmkey_st hi h
  cn := fun q W h _ => fmnum_st hi h
  ct := fun q W h => fmtext_st hi h
  num := fun q => fmN_i64 q
  plen := fun q => by have := (rpath_len q).1; show (rpath q).1.length ≤ _; omega
end Go.Proofs.YtpepgoelnagoaaaGreatDoor
namespace Go.Proofs.YtpepgoelnagoaaaGreatDoor
open Go.RowKit Go.Shelf
set_option linter.unusedSimpArgs false

def lenOf : Value → Nat | .slice _ n _ => n | _ => 0
set_option maxHeartbeats 2000000 in
set_option maxRecDepth 100000 in
theorem split_any (s : ByteArray) (w : World) (hs : s.size ≤ 1000000) (hT : Tabs w) : Calls Tryz.prog 237 #[.string s] w fun e w' => SplitE w w' (splitB s.data.toList) e ∧ Below w.heap.size w w' := by
  obtain ⟨i0, hi, hz0, hz1, hz2⟩ := info_parts Tryz.info9
  have hl : s.data.toList.length = s.size := (Lib.size_eq s).symm
  have hcp := Tryz.strings_CutPrefix s ⟨#[47]⟩ w
  unfold splitB
  simp only [Lib.trimPrefix] at hcp
  by_cases hpf : Lib.hasPrefix s.data.toList [47] = true
  · rw [if_pos hpf]
    have hpf' : Lib.hasPrefix s.data.toList (⟨#[47]⟩ : ByteArray).data.toList = true := hpf
    rw [hpf', if_pos rfl] at hcp
    have hcp2 : Calls Tryz.prog 240 #[.string s, .string { data := #[47] }] w fun e w' => e = .returned (.tuple #[.string ⟨(s.data.toList.drop 1).toArray⟩, .bool true]) ∧ w' = w := hcp
    obtain ⟨r0, hr0⟩ : ∃ r0, r0 = s.data.toList.drop 1 := ⟨_, rfl⟩
    have hr0l : r0.length ≤ 1000000 := by rw [hr0, List.length_drop]; omega
    rw [← hr0] at hcp2 ⊢
    clear hcp hpf hpf' hr0
    by_cases hne : r0 = []
    · subst hne
      rw [if_pos rfl]
      go_enter Tryz.func237, Tryz.ntmps237
      go_wp2
      go_step3
      go_wp2_with (go_at_call 240; refine hcp2.mono ?_; rintro e w' ⟨rfl, rfl⟩)
      rw [Exit.noGoto_ret]
      go_ret2
      exact ⟨.inr ⟨[], _, rfl, rfl, Os.nil _ _⟩, Below.refl _ _⟩
    · rw [if_neg hne]
      have b1 : ((⟨r0.toArray⟩ : ByteArray).toList == []) = false := by rw [beq_eq_false_iff_ne, ByteArray.toList_eq]; simpa using hne
      have b1' : r0.isEmpty = false := by simpa using hne
      obtain ⟨R, hR⟩ : ∃ R, R = splitGo 8 [] r0 := ⟨_, rfl⟩
      rw [← hR]
      have HR := hide hR
      clear hR hne
      go_enter Tryz.func237, Tryz.ntmps237
      go_wp2
      go_step3
      go_wp2_with (go_at_call 240; refine hcp2.mono ?_; rintro e w' ⟨rfl, hww⟩; have hwx := hww.symm; clear hww; subst hwx)
      go_step3
      go_wp2
      go_loopw [4, 5, 6, 7] (fun v4 v5 v6 v7 wr => ∃ (t : List UInt8) (m : Bool) (acc : List (List UInt8)), v4 = .string ⟨t.toArray⟩ ∧ v5 = .bool m ∧ v7 = .int .i64 0 ∧ t.length ≤ 1000000 ∧ Hid (Os wr w.heap.size v6 (keysOf acc)) ∧ Hid (if m then acc.length ≤ 6 ∧ splitGo (8 - acc.length) acc t = R else acc.length ≤ 7 ∧ some acc = R) ∧ Hid (Below w.heap.size w wr)) (fun _ _ v6 _ _ => 8 - lenOf v6)
      case atStart => exact ⟨r0, true, [], rfl, rfl, rfl, hr0l, hide (Os.nil _ _), hide ⟨by simp, HR.out.symm⟩, hide (Below.refl _ _)⟩
      case round =>
        obtain ⟨t, m, acc, rfl, rfl, rfl, htl, HO, HG, HW⟩ := hrel
        obtain ⟨ao, cc, rfl, -, -, -, -⟩ := HO.out.shape
        have hkl : (keysOf acc).length = acc.length := by simp [keysOf]
        rw [hkl] at HO ⊢
        cases m with
        | false =>
          go_wp2
          rw [Exit.noGoto_ret]
          go_ret2
          have hg := HG.out
          simp only [Bool.false_eq_true, if_false] at hg
          exact ⟨.inr ⟨acc, _, hg.2.symm, rfl, HO.out⟩, HW.out⟩
        | true =>
          have hg := HG.out
          simp only [if_true] at hg
          obtain ⟨n, hn⟩ : ∃ n, 8 - acc.length = n + 1 := ⟨7 - acc.length, by omega⟩
          rw [hn] at hg
          have hacl := hg.1
          have hst : splitGo (n + 1) acc t = R := hg.2
          rw [splitGo] at hst
          have hcut := cut_any ⟨t.toArray⟩ wr (by simpa [ByteArray.size] using htl)
          have hcl := cut47_length t
          have ht' : (⟨t.toArray⟩ : ByteArray).data.toList = t := rfl
          rw [ht'] at hcut
          unfold cutE at hcut
          generalize cut47 t = C at hst hcut hcl
          obtain ⟨k, r, m'⟩ := C
          simp only at hst hcut hcl
          have hky : ∀ nq, Calls Tryz.prog 91 #[.string ⟨k.toArray⟩] (wr.drewN nq) fun e w' => e = .returned (.bool (keyB k)) ∧ Below wr.heap.size (wr.drewN nq) w' := fun nq => key_any ⟨k.toArray⟩ (wr.drewN nq) (Tabs.below hT (Below.trans (Below.mono (B := w.heap.size) HW.out (Nat.le_refl _)) ⟨rfl, rfl, rfl, Nat.le_refl _, fun _ _ => rfl⟩))
          have HS := hide hst
          clear hst hg HG
          by_cases h6 : acc.length = 6
          · have h6b : ((acc.length : Int) == 6) = true := by simp [h6]
            have hRn : R = none := by rw [← HS.out, if_pos (.inl h6)]
            have HE := hide hRn
            clear hRn h6 hky
            go_wp2_with (go_at_call 118; refine hcut.mono ?_; rintro e w' ⟨rfl, nq, rfl⟩)
            rw [Exit.noGoto_ret]
            go_ret2
            exact ⟨.inl ⟨HE.out, rfl⟩, HW.out.trans ⟨rfl, rfl, rfl, Nat.le_refl _, fun _ _ => rfl⟩⟩
          · have h6b : ((acc.length : Int) == 6) = false := by simp; omega
            cases hkb : keyB k with
            | false =>
              have hRn : R = none := by rw [← HS.out, if_pos (.inr hkb)]
              have HE := hide hRn
              simp only [hkb] at hky
              clear hRn h6 hkb
              go_wp2_with (first
                | (go_at_call 118; refine hcut.mono ?_; rintro e w' ⟨rfl, nq, rfl⟩)
                | (go_at_call 91; refine (hky _).mono ?_; rintro e w8 ⟨rfl, b8⟩))
              rw [Exit.noGoto_ret]
              go_ret2
              exact ⟨.inl ⟨HE.out, rfl⟩, (below_dr HW.out nq).trans (b8.mono HW.out.size)⟩
            | true =>
              simp only [hkb] at hky
              have HN := hide (And.intro h6 (And.intro hn hkb))
              clear h6 hkb hn
              go_wp2_with (first
                | (go_at_call 118; refine hcut.mono ?_; rintro e w' ⟨rfl, nq, rfl⟩)
                | (go_at_call 91; refine (hky _).mono ?_; rintro e w8 ⟨rfl, b8⟩; have hO8 : Os w8 w.heap.size (.slice ao acc.length cc) (keysOf acc) := HO.out.below ((below_dr (Below.refl _ wr) nq).trans b8); have hB8 : Below w.heap.size w w8 := (below_dr HW.out nq).trans (b8.mono HW.out.size); have hs8 := hB8.size)
                | (at_builtin; refine wpList_append_own _ rfl _ _ 30 rfl w.heap.size 9 i0 (.string ⟨#[]⟩) 1 16 Tryz.underlying30 hi hz0 hz1 hz2 rfl (by decide) _ _ _ rfl (hO8.alloc (.cells #[.string ⟨k.toArray⟩] 9)) ⟨w8.heap.size, 0, none⟩ 1 1 [.string ⟨k.toArray⟩] rfl rfl ?c1 ?c2 ?c3 ?c4 ?c5 ?_))
              case c1 =>
                intro j u hj
                match j, hj with
                | 0, hj => simp at hj; subst hj; simp [Addr.add]
              case c2 => intro u hu; simp at hu; subst hu; rfl
              case c3 => unfold maxLen; simp [keysOf]; omega
              case c4 => simp [keysOf]; omega
              case c5 => simp; omega
              intro v2 w9 hown9 hg9 _
              have hO9 : Os w9 w.heap.size v2 (keysOf (acc ++ [k])) := by
                have e1 : keysOf (acc ++ [k]) = keysOf acc ++ [⟨k.toArray⟩] := by simp [keysOf]
                rw [e1]
                unfold Os
                rw [List.length_append, List.map_append, hkl]
                exact hown9
              have hB9 : Below w.heap.size w w9 := (hB8.alloc hs8 _).grown hg9 (by simp; omega) (fun j hj => (World.ownsRow.lt hO8 j hj).1)
              obtain ⟨a9, c9, rfl, -, -, -, -⟩ := hO9.shape
              have hkl9 : (keysOf (acc ++ [k])).length = acc.length + 1 := by simp [keysOf]
              rw [hkl9] at hO9 ⊢
              have H9 := hide (And.intro hO9 hB9)
              clear hO9 hB9 hown9 hg9 hO8 hB8 b8
              go_wp2
              obtain ⟨h6, hn, hkb⟩ := HN.out
              refine ⟨⟨r, m', acc ++ [k], rfl, rfl, rfl, by omega, hide H9.out.1, hide ?_, hide H9.out.2⟩, ?_⟩
              · have hst := HS.out
                rw [if_neg (by simp [h6, hkb])] at hst
                cases m' with
                | true =>
                  simp only [if_true] at hst ⊢
                  refine ⟨by simp; omega, ?_⟩
                  rw [← hst]
                  congr 1
                  simp; omega
                | false =>
                  simp only [Bool.false_eq_true, if_false] at hst ⊢
                  exact ⟨by simp; omega, hst⟩
              · simp only [lenOf]; omega
  · have hpf' : Lib.hasPrefix s.data.toList (⟨#[47]⟩ : ByteArray).data.toList = false := by simpa using hpf
    rw [if_neg hpf]
    rw [hpf'] at hcp
    go_enter Tryz.func237, Tryz.ntmps237
    go_wp2
    go_step3
    go_wp2_with (go_at_call 240; refine hcp.mono ?_; rintro e w' ⟨rfl, rfl⟩)
    rw [Exit.noGoto_ret]
    go_ret2
    exact ⟨.inl ⟨rfl, rfl⟩, Below.refl _ _⟩
end Go.Proofs.YtpepgoelnagoaaaGreatDoor
namespace Go.Proofs.YtpepgoelnagoaaaGreatDoor
open Go.RowKit Go.Shelf
set_option linter.unusedSimpArgs false
set_option linter.unusedVariables false
attribute [local go_sem] Oper.semAt_some

/-- What is left of a text that is told piece by piece. -/
structure Pz where
  left : ByteArray
  more : Bool
def nextP (sg : List UInt8) (q : Pz) : ByteArray × Bool × Pz :=
  if q.more = true then (⟨(Lib.cut q.left.data.toList sg).1.toArray⟩, true, ⟨⟨(Lib.cut q.left.data.toList sg).2.1.toArray⟩, (Lib.cut q.left.data.toList sg).2.2⟩) else (⟨#[]⟩, false, q)
structure PcS (w : World) (M L S : Nat) (sg : ByteArray) (q : Pz) : Prop where
  m : w.heap[M]? = some (.cells #[.bool q.more] 4 (0, 0))
  l : w.heap[L]? = some (.cells #[.string q.left] 9 (0, 0))
  s : w.heap[S]? = some (.cells #[.string sg] 9 (0, 0))
  ne : M ≠ L ∧ S ≠ M ∧ S ≠ L
  sz : q.left.size ≤ 1000000
theorem PcS.only {w w' : World} {M L S : Nat} {sg : ByteArray} {q : Pz} {D : Nat → Prop} (h : PcS w M L S sg q) (ho : Only D w w') (hM : ¬ D M) (hL : ¬ D L) (hS : ¬ D S) : PcS w' M L S sg q :=
  ⟨(ho.block _ (Array.getElem?_eq_some_iff.1 h.m).1 hM).trans h.m, (ho.block _ (Array.getElem?_eq_some_iff.1 h.l).1 hL).trans h.l, (ho.block _ (Array.getElem?_eq_some_iff.1 h.s).1 hS).trans h.s, h.ne, h.sz⟩
theorem PcS.below {w w' : World} {M L S : Nat} {sg : ByteArray} {q : Pz} (h : PcS w M L S sg q) (hb : Below w.heap.size w w') : PcS w' M L S sg q := h.only (Only.ofBelow hb) (fun d => d) (fun d => d) (fun d => d)
theorem cut_le (s sep : List UInt8) : (Lib.cut s sep).1.length ≤ s.length ∧ (Lib.cut s sep).2.1.length ≤ s.length := by
  unfold Lib.cut
  split
  · simp only [List.length_take, List.length_drop]; omega
  · simp
theorem nextP_sz {sg : List UInt8} {q : Pz} (h : q.left.size ≤ 1000000) : (nextP sg q).1.size ≤ 1000000 ∧ (nextP sg q).2.2.left.size ≤ 1000000 := by
  have hc := cut_le q.left.data.toList sg
  rw [← Lib.size_eq] at hc
  unfold nextP
  split
  · dsimp only; rw [arr_size, arr_size]; omega
  · exact ⟨(by show (0 : Nat) ≤ 1000000; omega), h⟩
theorem cutO_any (s sep : ByteArray) (w : World) (hs : s.size ≤ 1000000) (hm : ∃ m, w.cell? ⟨5, 0, none⟩ = some (.int .i64 m)) :
    Calls Tryz.prog 118 #[.string s, .string sep] w fun e w' => e = .returned (.tuple #[.string ⟨(Lib.cut s.data.toList sep.data.toList).1.toArray⟩, .string ⟨(Lib.cut s.data.toList sep.data.toList).2.1.toArray⟩, .bool (Lib.cut s.data.toList sep.data.toList).2.2]) ∧ ∃ n, w' = w.drewN n := by
  obtain ⟨m, hm⟩ := hm
  exact Tryz.strings_Cut s sep m w (by omega) hm

set_option maxHeartbeats 2000000 in
set_option maxRecDepth 100000 in
theorem next_any {w : World} {M L S : Nat} {sg : ByteArray} {q : Pz} (h : PcS w M L S sg q) (hm : ∃ m, w.cell? ⟨5, 0, none⟩ = some (.int .i64 m)) :
    Calls Tryz.prog 117 #[.pointer (some ⟨M, 0, none⟩), .pointer (some ⟨L, 0, none⟩), .pointer (some ⟨S, 0, none⟩)] w fun e w' => e = .returned (.tuple #[.string (nextP sg.data.toList q).1, .bool (nextP sg.data.toList q).2.1]) ∧ PcS w' M L S sg (nextP sg.data.toList q).2.2 ∧ Only (fun j => j = M ∨ j = L) w w' := by
  have hsz := nextP_sz (sg := sg.data.toList) h.sz
  obtain ⟨lf, mo⟩ := q
  have cM : w.cell? ⟨M, 0, none⟩ = some (.bool mo) := (cell_of_row _ _ 0 _ 4 (0, 0) h.m).trans rfl
  have cL : w.cell? ⟨L, 0, none⟩ = some (.string lf) := (cell_of_row _ _ 0 _ 9 (0, 0) h.l).trans rfl
  have cS : w.cell? ⟨S, 0, none⟩ = some (.string sg) := (cell_of_row _ _ 0 _ 9 (0, 0) h.s).trans rfl
  have fM := frozen_of_row _ _ 0 _ 4 h.m
  have fL := frozen_of_row _ _ 0 _ 9 h.l
  have h118 := cutO_any lf sg w h.sz hm
  have hn : nextP sg.data.toList ⟨lf, mo⟩ = if mo = true then (⟨(Lib.cut lf.data.toList sg.data.toList).1.toArray⟩, true, ⟨⟨(Lib.cut lf.data.toList sg.data.toList).2.1.toArray⟩, (Lib.cut lf.data.toList sg.data.toList).2.2⟩) else (⟨#[]⟩, false, ⟨lf, mo⟩) := rfl
  obtain ⟨R, hR⟩ : ∃ r, r = nextP sg.data.toList ⟨lf, mo⟩ := ⟨_, rfl⟩
  rw [← hR] at hn hsz ⊢
  generalize (⟨(Lib.cut lf.data.toList sg.data.toList).1.toArray⟩ : ByteArray) = c1 at h118 hn
  generalize (⟨(Lib.cut lf.data.toList sg.data.toList).2.1.toArray⟩ : ByteArray) = c2 at h118 hn
  generalize (Lib.cut lf.data.toList sg.data.toList).2.2 = c3 at h118 hn
  have H := hide (And.intro h hsz)
  clear h hm hR hsz
  have hML : ¬ M = L := H.out.1.ne.1
  cases mo
  · rw [if_neg (by simp)] at hn
    subst hn
    go_enter Tryz.func117, Tryz.ntmps117
    go_wp2
    go_ret2
    exact ⟨rfl, H.out.1, Only.refl _ _⟩
  · rw [if_pos rfl] at hn
    have HN := hide hn
    clear hn
    go_enter Tryz.func117, Tryz.ntmps117
    go_wp2_with (go_at_call 118; (refine h118.mono ?_; rintro e w' ⟨rfl, k, hw'⟩; have HK := hide hw'; clear hw'; have cL' : w'.cell? ⟨L, 0, none⟩ = some (.string lf) := (by rw [HK.out]; exact cL); have cM' : w'.cell? ⟨M, 0, none⟩ = some (.bool true) := (by rw [HK.out]; exact cM); have fL' : w'.frozen? ⟨L, 0, none⟩ = false := (by rw [HK.out]; exact fL); have fM' : w'.frozen? ⟨M, 0, none⟩ = false := (by rw [HK.out]; exact fM)))
    go_ret2
    have hw : PcS w' M L S sg ⟨lf, true⟩ ∧ Only (fun j => j = M ∨ j = L) w w' := by rw [HK.out]; exact ⟨H.out.1.below ⟨rfl, rfl, rfl, Nat.le_refl _, fun _ _ => rfl⟩, (Only.refl _ w).drewN k⟩
    rw [HN.out]
    refine ⟨rfl, ⟨?_, ?_, ?_, H.out.1.ne, by have := H.out.2.2; rw [HN.out] at this; exact this⟩, (hw.2.setCell ⟨L, 0, none⟩ _ (fun _ => .inr rfl)).setCell ⟨M, 0, none⟩ _ (fun _ => .inl rfl)⟩
    · have a1 : (w'.setCell ⟨L, 0, none⟩ (.string c2)).heap[M]? = some (.cells #[.bool true] 4 (0, 0)) := by
        rw [heap_setCell_other _ _ _ _ (by exact hML)]; exact hw.1.m
      exact (Ki.set_one (i := 0) (.bool c3) a1).1
    · rw [heap_setCell_other _ _ _ _ (by exact fun e => hML e.symm)]
      exact (Ki.set_one (i := 0) (.string c2) hw.1.l).1
    · rw [heap_setCell_other _ _ _ _ (by exact H.out.1.ne.2.1), heap_setCell_other _ _ _ _ (by exact H.out.1.ne.2.2)]
      exact hw.1.s
end Go.Proofs.YtpepgoelnagoaaaGreatDoor
namespace Go.Proofs.YtpepgoelnagoaaaGreatDoor
open Go.RowKit Go.Shelf
set_option linter.unusedSimpArgs false
set_option linter.unusedVariables false
attribute [local go_sem] Oper.semAt_some

set_option maxHeartbeats 1000000 in
set_option maxRecDepth 100000 in
theorem pieces_any (s sg : ByteArray) (w : World) (hs : s.size ≤ 1000000) : Calls Tryz.prog 76 #[.string s, .string sg] w fun e w' => ∃ M L S, e = .returned (.func (.func 117) #[] #[.pointer (some ⟨M, 0, none⟩), .pointer (some ⟨L, 0, none⟩), .pointer (some ⟨S, 0, none⟩)]) ∧ PcS w' M L S sg ⟨s, true⟩ ∧ w.heap.size ≤ M ∧ w.heap.size ≤ L ∧ w.heap.size ≤ S ∧ Below w.heap.size w w' := by
  have hmf : ∀ (f : Fn) (a b : Array Value) (W : World), (Instr.makeFunc f a b).run Tryz.prog W = .ok (.func f a b) W := fun _ _ _ _ => rfl
  obtain ⟨w3, hw3⟩ : ∃ r, r = ((w.alloc (.cells #[.string sg] 9)).alloc (.cells #[.string s] 9)).alloc (.cells #[.bool true] 4) := ⟨_, rfl⟩
  obtain ⟨n1, n2, n3, hb⟩ := Ki.new3 w (.cells #[.string sg] 9) (.cells #[.string s] 9) (.cells #[.bool true] 4)
  have hm : ∀ (x : Value), (((w.alloc (.cells #[.string sg] 9)).alloc (.cells #[.string ⟨#[]⟩] 9)).alloc (.cells #[x] 4)).heap[w.heap.size + 1]? = some (.cells #[.string ⟨#[]⟩] 9 (0, 0)) := fun x => (Ki.new3 w (.cells #[.string sg] 9) (.cells #[.string ⟨#[]⟩] 9) (.cells #[x] 4)).2.1
  go_enter Tryz.func76, Tryz.ntmps76
  go_wp2
  go_ret
  rw [← hw3] at n1 n2 n3 hb ⊢
  exact ⟨w.heap.size + 2, w.heap.size + 1, w.heap.size, rfl, ⟨n3, n2, n1, by omega, hs⟩, by omega, by omega, by omega, hb⟩

/-- Where the words of a text stand, since the world w0. -/
structure SpSt (w0 : World) (B M L S : Nat) (sg : ByteArray) (q : Pz) (W : World) : Prop where
  pc : PcS W M L S sg q
  old : Below w0.heap.size w0 W
  le : B ≤ W.heap.size
/-- What stands of it all the while. -/
structure SpIn (w0 : World) (B M L S : Nat) : Prop where
  env : EnvO w0
  m : w0.heap.size ≤ M ∧ M < B
  l : w0.heap.size ≤ L ∧ L < B
  s : w0.heap.size ≤ S ∧ S < B
theorem SpSt.below {w0 : World} {B M L S : Nat} {sg : ByteArray} {q : Pz} {W W' : World} (hi : SpIn w0 B M L S) (h : SpSt w0 B M L S sg q W) (hb : Below B W W') : SpSt w0 B M L S sg q W' := by
  have h1 := hi.m
  have h2 := hi.l
  have h3 := hi.s
  have h4 := h.le
  refine ⟨⟨(hb.block _ (by omega)).trans h.pc.m, (hb.block _ (by omega)).trans h.pc.l, (hb.block _ (by omega)).trans h.pc.s, h.pc.ne, h.pc.sz⟩, h.old.trans (hb.mono (by omega)), Nat.le_trans h4 hb.size⟩
theorem SpSt.step {w0 : World} {B M L S : Nat} {sg : ByteArray} {q q' : Pz} {W W1 w2 : World} (hi : SpIn w0 B M L S) (h : SpSt w0 B M L S sg q W) (hb : Below W.heap.size W W1) (hp : PcS w2 M L S sg q') (ho : Only (fun j => j = M ∨ j = L) W1 w2) : SpSt w0 B M L S sg q' w2 ∧ Only (fun j => j = M ∨ j = L) W w2 := by
  have h1 := hi.m
  have h2 := hi.l
  have h4 := h.le
  have h5 := hb.size
  have h6 := ho.size
  refine ⟨⟨hp, (h.old.trans (hb.mono h.old.size)).trans (ho.below (Nat.le_trans h.old.size h5) (fun j hj => by omega)), by omega⟩, ((Only.ofBelow hb).mono (fun _ _ e => e.elim)).trans ho (fun j hj e => e)⟩
theorem SpSt.env {w0 : World} {B M L S : Nat} {sg : ByteArray} {q : Pz} {W : World} (hi : SpIn w0 B M L S) (h : SpSt w0 B M L S sg q W) : EnvO W := hi.env.below h.old
abbrev spF (M L S : Nat) : Value := .func (.func 117) #[] #[.pointer (some ⟨M, 0, none⟩), .pointer (some ⟨L, 0, none⟩), .pointer (some ⟨S, 0, none⟩)]
abbrev spV (M L S : Nat) : Value := .agg #[spF M L S]

set_option maxHeartbeats 1000000 in
set_option maxRecDepth 100000 in
theorem word_st {w0 : World} {B M L S : Nat} {sg : ByteArray} {q : Pz} {W : World} (hi : SpIn w0 B M L S) (h : SpSt w0 B M L S sg q W) :
    Calls Tryz.prog 235 #[spV M L S] W fun e w' => e = .returned (.string (nextP sg.data.toList q).1) ∧ SpSt w0 B M L S sg (nextP sg.data.toList q).2.2 w' ∧ Only (fun j => j = M ∨ j = L) W w' := by
  obtain ⟨W1, hW1⟩ : ∃ r, r = W.alloc (.cells #[spF M L S] 113) := ⟨_, rfl⟩
  have d1 : Below W.heap.size W W1 := by rw [hW1]; exact (Below.refl _ W).alloc (Nat.le_refl _) _
  have k := next_any (h.pc.below d1) ((h.env hi).below d1).max
  have hst := fun w2 hp ho => SpSt.step (q' := (nextP sg.data.toList q).2.2) (w2 := w2) hi h d1 hp ho
  generalize nextP sg.data.toList q = R at k hst ⊢
  have c0 : W1.cell? ⟨W.heap.size, 0, none⟩ = some (spF M L S) := by rw [hW1]; exact (cell_of_row _ _ 0 _ 113 (0, 0) (heap_alloc_new _ _)).trans rfl
  have HW := hide (And.intro hW1 hst)
  clear h hi d1 hst hW1
  go_enter Tryz.func235, Tryz.ntmps235
  go_upto_region 1 with fail
  rw [← HW.out.1]
  go_wp2_with (go_at_call 117; refine k.mono ?_; rintro e w2 ⟨rfl, hp, ho⟩; have H2 := hide (HW.out.2 w2 hp ho); clear hp ho)
  go_ret
  exact ⟨rfl, H2.out⟩

def spD (sg : List UInt8) (q : Pz) : Int × Int × Pz := (if (Ki.ofWB Ki.doWs (nextP sg q).1).2 = true then (Ki.ofWB Ki.doWs (nextP sg q).1).1 else 0, if (Ki.ofWB Ki.doWs (nextP sg q).1).2 = true then 0 else 4, (nextP sg q).2.2)
def unP (r : Option (List UInt8)) : ByteArray × Int := match r with | some l => (⟨l.toArray⟩, 0) | none => (⟨#[]⟩, 4)
theorem unE_is (r : Option (List UInt8)) : unE r = .tuple #[.string (unP r).1, .int .i64 (unP r).2] := by cases r <;> rfl
def spT (sg : List UInt8) (q : Pz) : ByteArray × Int × Pz := ((unP (unwordB (nextP sg q).1.data.toList)).1, (unP (unwordB (nextP sg q).1.data.toList)).2, (nextP sg q).2.2)
def splitP (r : ByteArray × Int) : List ByteArray × Int := if r.2 = 0 then (match splitB r.1.data.toList with | some L => (keysOf L, 0) | none => ([], 4)) else ([], r.2)
def spP (sg : List UInt8) (q : Pz) : List ByteArray × Int × Pz := ((splitP (unP (unwordB (nextP sg q).1.data.toList))).1, (splitP (unP (unwordB (nextP sg q).1.data.toList))).2, (nextP sg q).2.2)
/-- The number that a word is just the text of. -/
def numW (w : ByteArray) : Option Int := match Lib.parseIntB 64 w.data.toList with | .ok v => if decL v = w.data.toList then some v else none | _ => none
def numP (r : Option Int) : Int × Int := match r with | some v => (v, 0) | none => (0, 4)
def spN (sg : List UInt8) (q : Pz) : Int × Int × Pz := ((numP (numW (nextP sg q).1)).1, (numP (numW (nextP sg q).1)).2, (nextP sg q).2.2)

theorem box113 {W : World} {M L S : Nat} : (W.alloc (.cells #[spF M L S] 113)).cell? ⟨W.heap.size, 0, none⟩ = some (spF M L S) := (cell_of_row _ _ 0 _ 113 (0, 0) (heap_alloc_new _ _)).trans rfl
/-- What is behind a call that makes nothing but new blocks. -/
theorem SpSt.after {w0 : World} {B M L S : Nat} {sg : ByteArray} {q : Pz} {W W1 W2 : World} (hi : SpIn w0 B M L S) (h : SpSt w0 B M L S sg q W1 ∧ Only (fun j => j = M ∨ j = L) W W1) (hb : Below W1.heap.size W1 W2) : SpSt w0 B M L S sg q W2 ∧ Only (fun j => j = M ∨ j = L) W W2 :=
  ⟨h.1.below hi (hb.mono h.1.le), h.2.trans ((Only.ofBelow hb).mono (fun _ _ e => e.elim)) (fun _ _ e => e)⟩
theorem SpSt.ahead {w0 : World} {B M L S : Nat} {sg : ByteArray} {q' : Pz} {W W1 W2 : World} (hi : SpIn w0 B M L S) (hb : Below W.heap.size W W1) (h : SpSt w0 B M L S sg q' W2 ∧ Only (fun j => j = M ∨ j = L) W1 W2) : SpSt w0 B M L S sg q' W2 ∧ Only (fun j => j = M ∨ j = L) W W2 :=
  ⟨h.1, ((Only.ofBelow hb).mono (fun _ _ e => e.elim)).trans h.2 (fun _ _ e => e)⟩

set_option maxHeartbeats 1000000 in
set_option maxRecDepth 100000 in
theorem do_st {w0 : World} {B M L S : Nat} {sg : ByteArray} {q : Pz} {W : World} (hi : SpIn w0 B M L S) (h : SpSt w0 B M L S sg q W) :
    Calls Tryz.prog 230 #[spV M L S] W fun e w' => e = .returned (.tuple #[.int .i64 (spD sg.data.toList q).1, .int .i64 (spD sg.data.toList q).2.1]) ∧ SpSt w0 B M L S sg (spD sg.data.toList q).2.2 w' ∧ Only (fun j => j = M ∨ j = L) W w' := by
  obtain ⟨W1, hW1⟩ : ∃ r, r = W.alloc (.cells #[spF M L S] 113) := ⟨_, rfl⟩
  have d1 : Below W.heap.size W W1 := by rw [hW1]; exact (Below.refl _ W).alloc (Nat.le_refl _) _
  have k := word_st hi (h.below hi (d1.mono h.le))
  have c0 : W1.cell? ⟨W.heap.size, 0, none⟩ = some (spF M L S) := by rw [hW1]; exact box113
  have hsp : spD sg.data.toList q = (if (Ki.ofWB Ki.doWs (nextP sg.data.toList q).1).2 = true then (Ki.ofWB Ki.doWs (nextP sg.data.toList q).1).1 else 0, if (Ki.ofWB Ki.doWs (nextP sg.data.toList q).1).2 = true then 0 else 4, (nextP sg.data.toList q).2.2) := rfl
  have k236 := fun W' => Ki.OfWordD (nextP sg.data.toList q).1 W'
  obtain ⟨X, hX⟩ : ∃ r, r = spD sg.data.toList q := ⟨_, rfl⟩
  rw [← hX] at hsp ⊢
  clear hX
  generalize nextP sg.data.toList q = R at k hsp k236 ⊢
  obtain ⟨R1, R2, R3⟩ := R
  dsimp only at k hsp k236
  generalize Ki.ofWB Ki.doWs R1 = O at hsp k236
  obtain ⟨O1, O2⟩ := O
  dsimp only at hsp k236
  have HW := hide (And.intro hW1 (And.intro hi d1))
  clear h hi d1 hW1
  cases O2
  · simp only [Bool.false_eq_true, if_false] at hsp
    subst hsp
    go_enter Tryz.func230, Tryz.ntmps230
    go_upto_region 1 with fail
    rw [← HW.out.1]
    go_wp2_with (first
      | (go_at_call 235; refine k.mono ?_; rintro e w2 ⟨rfl, hp⟩; have H2 := hide (SpSt.ahead HW.out.2.1 HW.out.2.2 hp); clear hp)
      | (go_at_call 236; refine (k236 _).mono ?_; rintro e w3 ⟨rfl, hb⟩; have H3 := hide (SpSt.after HW.out.2.1 H2.out hb); clear hb))
    go_ret2
    exact ⟨rfl, H3.out⟩
  · simp only [if_true] at hsp
    subst hsp
    go_enter Tryz.func230, Tryz.ntmps230
    go_upto_region 1 with fail
    rw [← HW.out.1]
    go_wp2_with (first
      | (go_at_call 235; refine k.mono ?_; rintro e w2 ⟨rfl, hp⟩; have H2 := hide (SpSt.ahead HW.out.2.1 HW.out.2.2 hp); clear hp)
      | (go_at_call 236; refine (k236 _).mono ?_; rintro e w3 ⟨rfl, hb⟩; have H3 := hide (SpSt.after HW.out.2.1 H2.out hb); clear hb))
    go_ret2
    exact ⟨rfl, H3.out⟩
end Go.Proofs.YtpepgoelnagoaaaGreatDoor
