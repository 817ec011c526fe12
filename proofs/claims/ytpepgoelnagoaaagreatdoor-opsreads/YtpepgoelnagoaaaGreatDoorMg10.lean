/-
  DOCB: the document's reader, bytes: carried from layer 1's seat.
  Picked.
-/
import Derived.Test.YtpepgoelnagoaaaGreatDoorMg9
import Derived.Test.YtpepgoelnagoaaaGreatDoorMg3
import Derived.BigQuiet
import Derived.Deep.QuietTactic
namespace Go.Proofs.YtpepgoelnagoaaaGreatDoor
open Go.RowKit

theorem append_op {P : Program} {md : Region.Mode} {ops : Array Oper} {Q : Exit → Act → World → Prop} {S : World → Prop} {w : World} {i : Nat} {oi : Oper} {d : Tmp} {fuel : Nat} {listed : Array Bool} {a : Act} (s x : Operand) (t : TypeId) (hi : ops[i]? = some oi) (hd : oi.dst = some d)
    (ho : oi.op = .call { callee := .builtin .append, args := #[s, x], argTypes := #[t, t] })
    (hr : Region.ready md ops listed = [i]) (hw : Region.wanted oi (yielded ops a.tmps) = true)
    (B : Nat) (e : TypeId) (i0 : TypeInfo) (ht : P.underlying t = some (.slice e)) (hi0 : P.info? e = some i0) (hz : i0.zero = some (.int .u8 0))
    (hsize : i0.size = 1) (hby : i0.bytes = 1)
    (v : Value) (p : List Int) (hs : a.eval s = v) (hown : Own e w B v p)
    (ao : Option Addr) (c : Nat) (l : List Int) (hx : a.eval x = .slice ao l.length c) (hc : ao = none → c = 0) (hrd : Rd w ao l)
    (hbytes : p.length + l.length ≤ 140737488355328) (hbase : B ≤ w.heap.size)
    (h : ∀ ao' cap' w', Own e w' B (.slice ao' (p.length + l.length) cap') (p ++ l) → w.grownBy w' v.ownBlock → (ao' = none → cap' = 0) →
      S w' ∧ wpAnyH P md ops Q S fuel (listed.setIfInBounds i true) (a.put (some d) (.slice ao' (p.length + l.length) cap')) w') : wpAnyH P md ops Q S (fuel + 1) listed a w := by
  refine wpAnyH_ready hr (by simp) (AllReadyH.cons hi (fun K hK => ?_) AllReadyH.nil)
  rw [if_pos hw]
  have fin : ∀ v' w', Own e w' B v' (p ++ l) → w.grownBy w' v.ownBlock → K (a.put oi.dst v') w' := fun v' w' h1 h2 => by
    obtain ⟨ao', cap', rfl, hn⟩ := h1.form
    rw [hd]
    obtain ⟨k1, k2⟩ := h ao' cap' w' (by simpa using h1) h2 hn
    refine hK.out _ _ k1 (fun _ => ?_)
    simpa using k2
  cases ao with
  | none =>
    have hl := hrd.1 rfl
    subst hl
    have hc0 := hc rfl
    subst hc0
    have hrun := run_append_owned_none (P := P) (w := w) B t oi.type e i0 1 ht hi0 v _ _ hown
    have hx' : a.eval x = .slice none 0 0 := hx
    unfold Oper.wp
    simp [execOp, ho, resolve, invoke, builtin, hs, hx', hrun, Result.andThen]
    exact fin v w (by simpa using hown) (World.grownBy.refl _ _)
  | some ad =>
    refine wp_append_own w s x t ho B e i0 (.int .u8 0) 1 1 ht hi0 hz hsize hby rfl (by decide) v _ _ hs hown ad l.length c (u8s l) hx (by simp [u8s]) (fun j u hj => hrd.2 ad rfl j u hj) u8s_one
      (by unfold maxLen; omega) (by omega) hbase ?_
    intro v' w' hown' hg _
    exact fin v' w' (by unfold Own; rw [u8s_append, List.length_append]; exact hown') hg

set_option linter.unusedSimpArgs false
variable {T : Nat}

theorem Rd.sub {w : World} {ao : Option Addr} {l : List Int} (h : Rd w ao l) (k : Nat) : Rd w (ao.map (fun x => x.add k)) (l.drop k) := by
  cases ao with
  | none => refine ⟨fun _ => ?_, by simp⟩; rw [h.1 rfl]; simp
  | some a =>
    refine ⟨by simp, ?_⟩
    intro a' ha' j u hj
    simp only [Option.map_some, Option.some.injEq] at ha'
    subst ha'
    rw [add_add]
    exact h.2 a rfl (k + j) u (by rw [u8s_get] at hj ⊢; rw [List.getElem?_drop] at hj; exact hj)

/-! ### Bytes -/

theorem dnumber_none (D : Nat) (LB l : List Int) (w : World) (hD : Doc T w D LB l) (h : Plain.readN 0 0 l = none) :
    Calls Tryz.prog 71 #[.pointer (some ⟨D, 0, none⟩)] w fun e w' => e = .returned (.tuple #[.int .u64 0, .int .i64 4]) ∧ Doc T w' D LB l ∧ w.grownBy w' (some D) := by
  have hc := dnumber_any D LB l w hD
  rw [rnum_none h] at hc
  exact hc
theorem dnumber_some (D n k : Nat) (LB l : List Int) (w : World) (hD : Doc T w D LB l) (h : Plain.readN 0 0 l = some (n, k)) :
    Calls Tryz.prog 71 #[.pointer (some ⟨D, 0, none⟩)] w fun e w' => e = .returned (.tuple #[.int .u64 n, .int .i64 0]) ∧ Doc T w' D LB (l.drop k) ∧ w.grownBy w' (some D) := by
  have hc := dnumber_any D LB l w hD
  rw [rnum_some h] at hc
  exact hc

/-- The cells of the document's reader. -/
theorem Doc.cells {w : World} {D : Nat} {LB l : List Int} (h : Doc T w D LB l) : ∃ bo cap at', w.cell? ⟨D, 0, none⟩ = some (.slice bo LB.length cap) ∧ w.cell? ⟨D, 1, none⟩ = some (.int .i64 ((at' : Nat) : Int)) ∧ w.frozen? ⟨D, 1, none⟩ = false ∧ D < w.heap.size ∧ at' ≤ LB.length ∧ LB.length ≤ 1048576 ∧ Hid (l = LB.drop at') ∧ LB.length ≤ cap ∧ Rd w bo LB ∧ (bo = none → cap = 0) ∧ ∀ x ∈ LB, 0 ≤ x ∧ x ≤ 255 := by
  obtain ⟨bo, cap, at', h1, h2, h3, h4, h5, hz, h6, h7, h8, h9⟩ := h
  obtain ⟨c0, c1, _, f1⟩ := cell_blk h1
  exact ⟨bo, cap, at', c0, c1, f1, (Array.getElem?_eq_some_iff.1 h1).1, h8, hz, h9, h4, h2, h3, h7⟩

theorem Doc.place {LB l : List Int} {at' at1 k : Nat} (h1 : l = LB.drop at') (h2 : l.drop k = LB.drop at1) (ha : at' ≤ LB.length) (hb : at1 ≤ LB.length) (hk : k ≤ l.length) : at1 = at' + k := by
  have e1 := congrArg List.length h1
  have e2 := congrArg List.length h2
  simp only [List.length_drop] at e1 e2
  omega

/-- The document's reader is laid back, or moved on. -/
theorem Doc.back {w w1 : World} {D at2 : Nat} {LB l1 l2 : List Int} {q : Int} (hg : w.grownBy w1 (some D)) (h1 : Doc T w1 D LB l1) (ha : at2 ≤ LB.length) (hl : l2 = LB.drop at2) (hq : q = (at2 : Int)) :
    Doc T (w1.setCell ⟨D, 1, none⟩ (.int .i64 q)) D LB l2 ∧ w.grownBy (w1.setCell ⟨D, 1, none⟩ (.int .i64 q)) (some D) := by
  subst hq
  obtain ⟨bo, cap, at', e1, e2, e3, e4, e5, e6, e7, e8, e9, e10⟩ := h1
  obtain ⟨r1, r2⟩ := Doc.set e1 e2 e3 e4 e5 e6 e7 e8 ha hl
  exact ⟨r1, grown_trans hg r2⟩

set_option maxHeartbeats 1000000 in
set_option maxRecDepth 100000 in
theorem dbytes_any (D : Nat) (most : Int) (LB l : List Int) (w : World) (hD : Doc T w D LB l) (hm0 : 0 ≤ most) (hm : most ≤ 9223372036854775807) :
    Calls Tryz.prog 115 #[.pointer (some ⟨D, 0, none⟩), .int .i64 most] w fun e w' =>
      ∃ ao cap, e = .returned (.tuple #[.slice ao (rbytes most l).1.length cap, .int .i64 (rbytes most l).2.1]) ∧ Own 5 w' w.heap.size (.slice ao (rbytes most l).1.length cap) (rbytes most l).1 ∧ (ao = none → cap = 0) ∧
        Doc T w' D LB (rbytes most l).2.2 ∧ w.grownBy w' (some D) := by
  obtain ⟨i0, hi, hz0, hz1, hz2⟩ := info_parts Tryz.info5
  obtain ⟨bo, cap, at', c0, c1, f1, hsz, hat, hz, HL, hlc, hr, hnil, h8⟩ := hD.cells
  have hl := HL.out
  have h8l : ∀ x ∈ l, 0 ≤ x ∧ x ≤ 255 := fun x hx => h8 x (by rw [hl] at hx; exact List.mem_of_mem_drop hx)
  have hll : l.length ≤ 1048576 := by rw [hl]; simp; omega
  have hla : l.length = LB.length - at' := by rw [hl]; simp
  clear hl
  rcases hx : Plain.readN 0 0 l with _ | ⟨n, k⟩
  · have HB : Hid (rbytes most l = ([], 4, l)) := by
      show rbytes most l = _
      have : rcount most l = (0, 4, l) := by simp [rcount, hx]; omega
      simp [rbytes, this]
    have HX := hide hx
    clear hx hla
    go_enter Tryz.func115, Tryz.ntmps115
    go_wp2_with (go_at_call 71; refine (dnumber_none D LB l _ hD HX.out).mono ?_; rintro e w1 ⟨rfl, hD1, hg1⟩; obtain ⟨bo1, cap1, at1, d0, d1, f1', hsz1, _⟩ := hD1.cells)
    go_ret2
    rw [HB.out]
    obtain ⟨r1, r2⟩ := Doc.back hg1 hD1 hat HL.out rfl
    exact ⟨none, 0, rfl, Own.nil _ _ _, by simp, r1, r2⟩
  · obtain ⟨m, e1, e2, e3, e4, e5, e6, e7⟩ := Plain.readN_spec l 0 0 n k (by omega) (by simp) h8l hx
    have HX := hide hx
    by_cases hlt : most < n
    · have HB : Hid (rbytes most l = ([], 3, l)) := by
        show rbytes most l = _
        have : rcount most l = (0, 3, l) := by simp [rcount, hx, hlt]; omega
        simp [rbytes, this]
      clear hx e6 e7 e1 hla
      go_enter Tryz.func115, Tryz.ntmps115
      go_wp2_with (go_at_call 71; refine (dnumber_some D n k LB l _ hD HX.out).mono ?_; rintro e w1 ⟨rfl, hD1, hg1⟩; obtain ⟨bo1, cap1, at1, d0, d1, f1', hsz1, _⟩ := hD1.cells)
      go_ret2
      rw [HB.out]
      obtain ⟨r1, r2⟩ := Doc.back hg1 hD1 hat HL.out rfl
      exact ⟨none, 0, rfl, Own.nil _ _ _, by simp, r1, r2⟩
    · have hrc : rcount most l = ((n : Int), 0, l.drop k) := by simp [rcount, hx, hlt]; omega
      have hdl : (l.drop k).length = l.length - k := by simp
      by_cases hshort : l.length - k < n
      · have HB : Hid (rbytes most l = ([], 4, l)) := by
          show rbytes most l = _
          unfold rbytes
          rw [hrc]
          simp only [if_true]
          rw [if_pos (by rw [hdl]; omega)]
        clear hx e6 e7 e1 hla hrc
        go_enter Tryz.func115, Tryz.ntmps115
        go_wp2_with (first | (go_at_call 71; refine (dnumber_some D n k LB l _ hD HX.out).mono ?_; rintro e w1 ⟨rfl, hD1, hg1⟩; obtain ⟨bo1, cap1, at1, d0, d1, f1', hsz1, _⟩ := hD1.cells) | (go_at_call 32; refine (dleft_any D LB (l.drop k) _ hD1).mono ?_; rintro e w2 ⟨rfl, nq, rfl⟩))
        go_ret2
        rw [HB.out]
        obtain ⟨r1, r2⟩ := Doc.back (at2 := at') (l2 := l) (q := (at' : Int)) (w1 := w1.drewN nq) ⟨hg1.os, hg1.tape, hg1.output, hg1.size, hg1.block⟩ hD1 hat HL.out rfl
        exact ⟨none, 0, rfl, Own.nil _ _ _, by simp, r1, r2⟩
      · have HB : Hid (rbytes most l = ((l.drop k).take n, 0, (l.drop k).drop n)) := by
          show rbytes most l = _
          unfold rbytes
          rw [hrc]
          simp only [if_true]
          rw [if_neg (by rw [hdl]; omega)]
          simp
        have hln : ((l.drop k).take n).length = n := by simp; omega
        clear hx e6 e7 e1 hrc hdl
        go_enter Tryz.func115, Tryz.ntmps115
        go_wp2_with (first | (go_at_call 71; refine (dnumber_some D n k LB l _ hD HX.out).mono ?_; rintro e w1 ⟨rfl, hD1, hg1⟩; obtain ⟨bo1, cap1, at1, d0, d1, f1', hsz1, hat1, _, HL1, hlc1, hr1, hnil1, _⟩ := hD1.cells; have HA1 := hide (Doc.place HL.out HL1.out hat hat1 (by omega))) | (go_at_call 32; refine (dleft_any D LB (l.drop k) _ hD1).mono ?_; rintro e w2 ⟨rfl, nq, rfl⟩))
        have hai : at1 + n ≤ LB.length := by have := HA1.out; omega
        obtain ⟨r1, r2⟩ := Doc.back (at2 := at1 + n) (l2 := (l.drop k).drop n) (q := (at1 : Int) + (n : Int)) (w1 := w1.drewN nq) ⟨hg1.os, hg1.tape, hg1.output, hg1.size, hg1.block⟩ hD1 hai (by rw [HL1.out, List.drop_drop]) (by omega)
        obtain ⟨bo3, cap3, at3, g0, g1, _, _, hat3, _, HL3, hlc3, hr3, hnil3, _⟩ := r1.cells
        have hat3' : at3 = at1 + n := by
          have q1 := congrArg List.length HL3.out
          have q2 := congrArg List.length HL1.out
          simp only [List.length_drop] at q1 q2
          omega
        subst hat3'
        have hRsub : ((LB.drop at1).take n) = (l.drop k).take n := by rw [HL1.out]
        have hS : ((w1.drewN nq).setCell ⟨D, 1, none⟩ (.int .i64 ((at1 : Int) + (n : Int)))).drew.cell? ⟨D, 0, none⟩ = some (.slice bo3 LB.length cap3) ∧ ((w1.drewN nq).setCell ⟨D, 1, none⟩ (.int .i64 ((at1 : Int) + (n : Int)))).drew.cell? ⟨D, 1, none⟩ = some (.int .i64 ((at1 : Int) + (n : Int))) := ⟨g0, by simpa using g1⟩
        have hil : at1 + n ≤ cap3 := by omega
        have hw1 : IntKind.i64.wrap (n : Int) = (n : Int) := by simp [IntKind.wrap, IntKind.bits, IntKind.signed]; omega
        have hw2 : IntKind.i64.wrap (at1 : Int) = (at1 : Int) := by simp [IntKind.wrap, IntKind.bits, IntKind.signed]; omega
        have hp0 : (0 : Int) ≤ (at1 : Int) + (n : Int) := by omega
        have hp1 : (at1 : Int) + (n : Int) ≤ (cap3 : Int) := by omega
        have hp2 : ((at1 : Int) + (n : Int)).toNat = at1 + n := by omega
        have hszw : w.heap.size ≤ (((w1.drewN nq).setCell ⟨D, 1, none⟩ (.int .i64 ((at1 : Int) + (n : Int)))).drew).heap.size := r2.size
        have HR1 := hide r1
        have HR2 := hide r2
        clear r1 r2 g0 g1 d0 d1 f1' hD1 hg1 hr1
        by_cases hce : cap3 = at1
        · have hn0 : n = 0 := by omega
          have hRs : Rd (((w1.drewN nq).setCell ⟨D, 1, none⟩ (.int .i64 ((at1 : Int) + (n : Int)))).drew) bo3 ((l.drop k).take n) := by
            rw [hn0, List.take_zero]; exact Rd.nil _ _
          have hnn : bo3 = none → (0 : Nat) = 0 := fun _ => rfl
          have hcs : cap3 - at1 = 0 := by omega
          have hci : (at1 : Int) + (n : Int) ≤ (at1 : Int) := by omega
          clear hn0
          clear hRsub hr3
          refine wp_region_held_drew (S := (fun w' => w'.cell? ⟨D, 0, none⟩ = some (.slice bo3 LB.length cap3) ∧ w'.cell? ⟨D, 1, none⟩ = some (.int .i64 ((at1 : Int) + (n : Int))))) (by kernel_rfl) (by exact hS) (fun hHeld => ?_)
          try dsimp only at hHeld
          refine take_op (i := 0) (d := 52) (OP := Go.Op.move (Go.Operand.tmp 0)) (T := 54) (v := ?vc1yx1) rfl rfl rfl rfl (by kernel_rfl) (by kernel_rfl) (by kernel_rfl) (fun _ _ _ h => h) (by rfl) ?hc1yx1 hHeld ?rc1yx1
          case hc1yx1 => (intro w' hSw; (try dsimp only at hSw); go_simp <;> with_reducible rfl)
          try simp only [Act.put, List.setIfInBounds_toArray, List.set_cons_zero, List.set_cons_succ]
          refine take_op (i := 1) (d := 53) (OP := Go.Op.nilCheck (Go.Operand.tmp 52)) (T := 0) (v := ?vc1yx2) rfl rfl rfl rfl (by kernel_rfl) (by kernel_rfl) (by kernel_rfl) (fun _ _ _ h => h) (by rfl) ?hc1yx2 hHeld ?rc1yx2
          case hc1yx2 => (intro w' hSw; (try dsimp only at hSw); go_simp <;> with_reducible rfl)
          try simp only [Act.put, List.setIfInBounds_toArray, List.set_cons_zero, List.set_cons_succ]
          refine take_op (i := 2) (d := 54) (OP := Go.Op.fieldAddr 56 (Go.Operand.tmp 53) 0) (T := 0) (v := ?vc1yx3) rfl rfl rfl rfl (by kernel_rfl) (by kernel_rfl) (by kernel_rfl) (fun _ _ _ h => h) (by rfl) ?hc1yx3 hHeld ?rc1yx3
          case hc1yx3 => (intro w' hSw; (try dsimp only at hSw); go_simp <;> with_reducible rfl)
          try simp only [Act.put, List.setIfInBounds_toArray, List.set_cons_zero, List.set_cons_succ]
          refine take_op (i := 3) (d := 55) (OP := Go.Op.load 26 (Go.Operand.tmp 54)) (T := 26) (v := ?vc1yx4) rfl rfl rfl rfl (by kernel_rfl) (by kernel_rfl) (by kernel_rfl) (fun _ _ _ h => h) (by rfl) ?hc1yx4 hHeld ?rc1yx4
          case hc1yx4 => (intro w' hSw; (try dsimp only at hSw); go_simp <;> with_reducible rfl)
          try simp only [Act.put, List.setIfInBounds_toArray, List.set_cons_zero, List.set_cons_succ]
          refine take_op (i := 4) (d := 56) (OP := Go.Op.move (Go.Operand.tmp 0)) (T := 54) (v := ?vc1yx5) rfl rfl rfl rfl (by kernel_rfl) (by kernel_rfl) (by kernel_rfl) (fun _ _ _ h => h) (by rfl) ?hc1yx5 hHeld ?rc1yx5
          case hc1yx5 => (intro w' hSw; (try dsimp only at hSw); go_simp <;> with_reducible rfl)
          try simp only [Act.put, List.setIfInBounds_toArray, List.set_cons_zero, List.set_cons_succ]
          refine take_op (i := 5) (d := 57) (OP := Go.Op.nilCheck (Go.Operand.tmp 56)) (T := 0) (v := ?vc1yx6) rfl rfl rfl rfl (by kernel_rfl) (by kernel_rfl) (by kernel_rfl) (fun _ _ _ h => h) (by rfl) ?hc1yx6 hHeld ?rc1yx6
          case hc1yx6 => (intro w' hSw; (try dsimp only at hSw); go_simp <;> with_reducible rfl)
          try simp only [Act.put, List.setIfInBounds_toArray, List.set_cons_zero, List.set_cons_succ]
          refine take_op (i := 6) (d := 58) (OP := Go.Op.fieldAddr 56 (Go.Operand.tmp 57) 1) (T := 0) (v := ?vc1yx7) rfl rfl rfl rfl (by kernel_rfl) (by kernel_rfl) (by kernel_rfl) (fun _ _ _ h => h) (by rfl) ?hc1yx7 hHeld ?rc1yx7
          case hc1yx7 => (intro w' hSw; (try dsimp only at hSw); go_simp <;> with_reducible rfl)
          try simp only [Act.put, List.setIfInBounds_toArray, List.set_cons_zero, List.set_cons_succ]
          refine take_op (i := 7) (d := 59) (OP := Go.Op.load 3 (Go.Operand.tmp 58)) (T := 3) (v := ?vc1yx8) rfl rfl rfl rfl (by kernel_rfl) (by kernel_rfl) (by kernel_rfl) (fun _ _ _ h => h) (by rfl) ?hc1yx8 hHeld ?rc1yx8
          case hc1yx8 => (intro w' hSw; (try dsimp only at hSw); go_simp <;> with_reducible rfl)
          try simp only [Act.put, List.setIfInBounds_toArray, List.set_cons_zero, List.set_cons_succ]
          refine take_op (i := 8) (d := 60) (OP := Go.Op.move (Go.Operand.tmp 7)) (T := 86) (v := ?vc1yx9) rfl rfl rfl rfl (by kernel_rfl) (by kernel_rfl) (by kernel_rfl) (fun _ _ _ h => h) (by rfl) ?hc1yx9 hHeld ?rc1yx9
          case hc1yx9 => (intro w' hSw; (try dsimp only at hSw); go_simp <;> with_reducible rfl)
          try simp only [Act.put, List.setIfInBounds_toArray, List.set_cons_zero, List.set_cons_succ]
          refine take_op (i := 9) (d := 61) (OP := Go.Op.convert 86 3 (Go.Operand.tmp 60)) (T := 3) (v := ?vc1yx10) rfl rfl rfl rfl (by kernel_rfl) (by kernel_rfl) (by kernel_rfl) (fun _ _ _ h => h) (by rfl) ?hc1yx10 hHeld ?rc1yx10
          case hc1yx10 => (intro w' hSw; (try dsimp only at hSw); go_simp <;> with_reducible rfl)
          try simp only [Act.put, List.setIfInBounds_toArray, List.set_cons_zero, List.set_cons_succ]
          refine take_op (i := 10) (d := 62) (OP := Go.Op.binOp Go.BinOp.sub 3 (Go.Operand.tmp 59) (Go.Operand.tmp 61) 3) (T := 3) (v := ?vc1yx11) rfl rfl rfl rfl (by kernel_rfl) (by kernel_rfl) (by kernel_rfl) (fun _ _ _ h => h) (by rfl) ?hc1yx11 hHeld ?rc1yx11
          case hc1yx11 => (intro w' hSw; (try dsimp only at hSw); go_simp <;> with_reducible rfl)
          try simp only [Act.put, List.setIfInBounds_toArray, List.set_cons_zero, List.set_cons_succ]
          refine take_op (i := 11) (d := 63) (OP := Go.Op.move (Go.Operand.tmp 0)) (T := 54) (v := ?vc1yx12) rfl rfl rfl rfl (by kernel_rfl) (by kernel_rfl) (by kernel_rfl) (fun _ _ _ h => h) (by rfl) ?hc1yx12 hHeld ?rc1yx12
          case hc1yx12 => (intro w' hSw; (try dsimp only at hSw); go_simp <;> with_reducible rfl)
          try simp only [Act.put, List.setIfInBounds_toArray, List.set_cons_zero, List.set_cons_succ]
          refine take_op (i := 12) (d := 64) (OP := Go.Op.nilCheck (Go.Operand.tmp 63)) (T := 0) (v := ?vc1yx13) rfl rfl rfl rfl (by kernel_rfl) (by kernel_rfl) (by kernel_rfl) (fun _ _ _ h => h) (by rfl) ?hc1yx13 hHeld ?rc1yx13
          case hc1yx13 => (intro w' hSw; (try dsimp only at hSw); go_simp <;> with_reducible rfl)
          try simp only [Act.put, List.setIfInBounds_toArray, List.set_cons_zero, List.set_cons_succ]
          refine take_op (i := 13) (d := 65) (OP := Go.Op.fieldAddr 56 (Go.Operand.tmp 64) 1) (T := 0) (v := ?vc1yx14) rfl rfl rfl rfl (by kernel_rfl) (by kernel_rfl) (by kernel_rfl) (fun _ _ _ h => h) (by rfl) ?hc1yx14 hHeld ?rc1yx14
          case hc1yx14 => (intro w' hSw; (try dsimp only at hSw); go_simp <;> with_reducible rfl)
          try simp only [Act.put, List.setIfInBounds_toArray, List.set_cons_zero, List.set_cons_succ]
          refine take_op (i := 14) (d := 66) (OP := Go.Op.load 3 (Go.Operand.tmp 65)) (T := 3) (v := ?vc1yx15) rfl rfl rfl rfl (by kernel_rfl) (by kernel_rfl) (by kernel_rfl) (fun _ _ _ h => h) (by rfl) ?hc1yx15 hHeld ?rc1yx15
          case hc1yx15 => (intro w' hSw; (try dsimp only at hSw); go_simp <;> with_reducible rfl)
          try simp only [Act.put, List.setIfInBounds_toArray, List.set_cons_zero, List.set_cons_succ]
          refine take_op (i := 15) (d := 67) (OP := Go.Op.slice 26 (Go.Operand.tmp 55) (some (Go.Operand.tmp 62)) (some (Go.Operand.tmp 66)) none) (T := 26) (v := ?vc1yx16) rfl rfl rfl rfl (by kernel_rfl) (by kernel_rfl) (by kernel_rfl) (fun _ _ _ h => h) (by rfl) ?hc1yx16 hHeld ?rc1yx16
          case hc1yx16 => (intro w' hSw; (try dsimp only at hSw); go_simp <;> with_reducible rfl)
          try simp only [Act.put, List.setIfInBounds_toArray, List.set_cons_zero, List.set_cons_succ]
          refine append_op (i := 16) (d := 68) (.const (.slice none 0 0)) (.tmp 67) 26 rfl rfl rfl (by kernel_rfl) (by rfl) w.heap.size 5 i0 Tryz.underlying26 hi hz0 hz1 hz2 (.slice none 0 0) [] rfl (Own.nil 5 _ _) bo3 0 ((l.drop k).take n) (by rw [hln]; rfl) (by exact hnn) (by exact hRs) (by rw [hln]; simp; omega) (by exact hszw) ?_
          intro ao2 cap2 w2 hown2 hg2 hnil2
          have hS2 : w2.cell? ⟨D, 0, none⟩ = some (.slice bo3 LB.length cap3) ∧ w2.cell? ⟨D, 1, none⟩ = some (.int .i64 ((at1 : Int) + (n : Int))) := ⟨hg2.cell hS.1 (by simp [Value.ownBlock]), hg2.cell hS.2 (by simp [Value.ownBlock])⟩
          refine ⟨hS2, ?_⟩
          replace hHeld := hS2
          try simp only [Act.put, List.setIfInBounds_toArray, List.set_cons_zero, List.set_cons_succ]
          refine take_op (i := 17) (d := 4) (OP := Go.Op.assign (Go.Operand.tmp 68)) (T := 26) (v := ?vd1yx1) rfl rfl rfl rfl (by kernel_rfl) (by kernel_rfl) (by kernel_rfl) (fun _ _ _ h => h) (by rfl) ?hd1yx1 hHeld ?rd1yx1
          case hd1yx1 => (intro w' hSw; (try dsimp only at hSw); go_simp <;> with_reducible rfl)
          try simp only [Act.put, List.setIfInBounds_toArray, List.set_cons_zero, List.set_cons_succ]
          refine take_op (i := 18) (d := 5) (OP := Go.Op.assign (Go.Operand.const (Go.Value.int Go.IntKind.i64 0))) (T := 3) (v := ?vd1yx2) rfl rfl rfl rfl (by kernel_rfl) (by kernel_rfl) (by kernel_rfl) (fun _ _ _ h => h) (by rfl) ?hd1yx2 hHeld ?rd1yx2
          case hd1yx2 => (intro w' hSw; (try dsimp only at hSw); go_simp <;> with_reducible rfl)
          try simp only [Act.put, List.setIfInBounds_toArray, List.set_cons_zero, List.set_cons_succ]
          refine wpAnyH_done (by kernel_rfl) ?_ _
          go_wp2
          go_ret2
          rw [HB.out]
          have hg3 : ((w1.drewN nq).setCell ⟨D, 1, none⟩ (.int .i64 ((at1 : Int) + (n : Int)))).grownBy w2 none := ⟨hg2.os, hg2.tape, hg2.output, hg2.size, hg2.block⟩
          refine ⟨ao2, cap2, ?_, ?_, hnil2, HR1.out.kept hg3 (by simp), grown_trans HR2.out ⟨hg2.os, hg2.tape, hg2.output, hg2.size, fun j hj _ => hg2.block j hj (by simp [Value.ownBlock])⟩⟩
          · exact ret_two (by simp; omega) rfl
          · simpa using hown2
        · have hRs : Rd (((w1.drewN nq).setCell ⟨D, 1, none⟩ (.int .i64 ((at1 : Int) + (n : Int)))).drew) (bo3.map (fun x => x.add at1)) ((l.drop k).take n) := by
            have q1 := (Rd.sub hr3 at1).take n
            rw [hRsub] at q1
            exact q1
          have hnn : bo3.map (fun x => x.add at1) = none → cap3 - at1 = 0 := by
            intro h
            cases bo3 with
            | none => have := hnil3 rfl; omega
            | some a => simp at h
          clear hRsub hr3
          refine wp_region_held_drew (S := (fun w' => w'.cell? ⟨D, 0, none⟩ = some (.slice bo3 LB.length cap3) ∧ w'.cell? ⟨D, 1, none⟩ = some (.int .i64 ((at1 : Int) + (n : Int))))) (by kernel_rfl) (by exact hS) (fun hHeld => ?_)
          try dsimp only at hHeld
          refine take_op (i := 0) (d := 52) (OP := Go.Op.move (Go.Operand.tmp 0)) (T := 54) (v := ?vc2yx1) rfl rfl rfl rfl (by kernel_rfl) (by kernel_rfl) (by kernel_rfl) (fun _ _ _ h => h) (by rfl) ?hc2yx1 hHeld ?rc2yx1
          case hc2yx1 => (intro w' hSw; (try dsimp only at hSw); go_simp <;> with_reducible rfl)
          try simp only [Act.put, List.setIfInBounds_toArray, List.set_cons_zero, List.set_cons_succ]
          refine take_op (i := 1) (d := 53) (OP := Go.Op.nilCheck (Go.Operand.tmp 52)) (T := 0) (v := ?vc2yx2) rfl rfl rfl rfl (by kernel_rfl) (by kernel_rfl) (by kernel_rfl) (fun _ _ _ h => h) (by rfl) ?hc2yx2 hHeld ?rc2yx2
          case hc2yx2 => (intro w' hSw; (try dsimp only at hSw); go_simp <;> with_reducible rfl)
          try simp only [Act.put, List.setIfInBounds_toArray, List.set_cons_zero, List.set_cons_succ]
          refine take_op (i := 2) (d := 54) (OP := Go.Op.fieldAddr 56 (Go.Operand.tmp 53) 0) (T := 0) (v := ?vc2yx3) rfl rfl rfl rfl (by kernel_rfl) (by kernel_rfl) (by kernel_rfl) (fun _ _ _ h => h) (by rfl) ?hc2yx3 hHeld ?rc2yx3
          case hc2yx3 => (intro w' hSw; (try dsimp only at hSw); go_simp <;> with_reducible rfl)
          try simp only [Act.put, List.setIfInBounds_toArray, List.set_cons_zero, List.set_cons_succ]
          refine take_op (i := 3) (d := 55) (OP := Go.Op.load 26 (Go.Operand.tmp 54)) (T := 26) (v := ?vc2yx4) rfl rfl rfl rfl (by kernel_rfl) (by kernel_rfl) (by kernel_rfl) (fun _ _ _ h => h) (by rfl) ?hc2yx4 hHeld ?rc2yx4
          case hc2yx4 => (intro w' hSw; (try dsimp only at hSw); go_simp <;> with_reducible rfl)
          try simp only [Act.put, List.setIfInBounds_toArray, List.set_cons_zero, List.set_cons_succ]
          refine take_op (i := 4) (d := 56) (OP := Go.Op.move (Go.Operand.tmp 0)) (T := 54) (v := ?vc2yx5) rfl rfl rfl rfl (by kernel_rfl) (by kernel_rfl) (by kernel_rfl) (fun _ _ _ h => h) (by rfl) ?hc2yx5 hHeld ?rc2yx5
          case hc2yx5 => (intro w' hSw; (try dsimp only at hSw); go_simp <;> with_reducible rfl)
          try simp only [Act.put, List.setIfInBounds_toArray, List.set_cons_zero, List.set_cons_succ]
          refine take_op (i := 5) (d := 57) (OP := Go.Op.nilCheck (Go.Operand.tmp 56)) (T := 0) (v := ?vc2yx6) rfl rfl rfl rfl (by kernel_rfl) (by kernel_rfl) (by kernel_rfl) (fun _ _ _ h => h) (by rfl) ?hc2yx6 hHeld ?rc2yx6
          case hc2yx6 => (intro w' hSw; (try dsimp only at hSw); go_simp <;> with_reducible rfl)
          try simp only [Act.put, List.setIfInBounds_toArray, List.set_cons_zero, List.set_cons_succ]
          refine take_op (i := 6) (d := 58) (OP := Go.Op.fieldAddr 56 (Go.Operand.tmp 57) 1) (T := 0) (v := ?vc2yx7) rfl rfl rfl rfl (by kernel_rfl) (by kernel_rfl) (by kernel_rfl) (fun _ _ _ h => h) (by rfl) ?hc2yx7 hHeld ?rc2yx7
          case hc2yx7 => (intro w' hSw; (try dsimp only at hSw); go_simp <;> with_reducible rfl)
          try simp only [Act.put, List.setIfInBounds_toArray, List.set_cons_zero, List.set_cons_succ]
          refine take_op (i := 7) (d := 59) (OP := Go.Op.load 3 (Go.Operand.tmp 58)) (T := 3) (v := ?vc2yx8) rfl rfl rfl rfl (by kernel_rfl) (by kernel_rfl) (by kernel_rfl) (fun _ _ _ h => h) (by rfl) ?hc2yx8 hHeld ?rc2yx8
          case hc2yx8 => (intro w' hSw; (try dsimp only at hSw); go_simp <;> with_reducible rfl)
          try simp only [Act.put, List.setIfInBounds_toArray, List.set_cons_zero, List.set_cons_succ]
          refine take_op (i := 8) (d := 60) (OP := Go.Op.move (Go.Operand.tmp 7)) (T := 86) (v := ?vc2yx9) rfl rfl rfl rfl (by kernel_rfl) (by kernel_rfl) (by kernel_rfl) (fun _ _ _ h => h) (by rfl) ?hc2yx9 hHeld ?rc2yx9
          case hc2yx9 => (intro w' hSw; (try dsimp only at hSw); go_simp <;> with_reducible rfl)
          try simp only [Act.put, List.setIfInBounds_toArray, List.set_cons_zero, List.set_cons_succ]
          refine take_op (i := 9) (d := 61) (OP := Go.Op.convert 86 3 (Go.Operand.tmp 60)) (T := 3) (v := ?vc2yx10) rfl rfl rfl rfl (by kernel_rfl) (by kernel_rfl) (by kernel_rfl) (fun _ _ _ h => h) (by rfl) ?hc2yx10 hHeld ?rc2yx10
          case hc2yx10 => (intro w' hSw; (try dsimp only at hSw); go_simp <;> with_reducible rfl)
          try simp only [Act.put, List.setIfInBounds_toArray, List.set_cons_zero, List.set_cons_succ]
          refine take_op (i := 10) (d := 62) (OP := Go.Op.binOp Go.BinOp.sub 3 (Go.Operand.tmp 59) (Go.Operand.tmp 61) 3) (T := 3) (v := ?vc2yx11) rfl rfl rfl rfl (by kernel_rfl) (by kernel_rfl) (by kernel_rfl) (fun _ _ _ h => h) (by rfl) ?hc2yx11 hHeld ?rc2yx11
          case hc2yx11 => (intro w' hSw; (try dsimp only at hSw); go_simp <;> with_reducible rfl)
          try simp only [Act.put, List.setIfInBounds_toArray, List.set_cons_zero, List.set_cons_succ]
          refine take_op (i := 11) (d := 63) (OP := Go.Op.move (Go.Operand.tmp 0)) (T := 54) (v := ?vc2yx12) rfl rfl rfl rfl (by kernel_rfl) (by kernel_rfl) (by kernel_rfl) (fun _ _ _ h => h) (by rfl) ?hc2yx12 hHeld ?rc2yx12
          case hc2yx12 => (intro w' hSw; (try dsimp only at hSw); go_simp <;> with_reducible rfl)
          try simp only [Act.put, List.setIfInBounds_toArray, List.set_cons_zero, List.set_cons_succ]
          refine take_op (i := 12) (d := 64) (OP := Go.Op.nilCheck (Go.Operand.tmp 63)) (T := 0) (v := ?vc2yx13) rfl rfl rfl rfl (by kernel_rfl) (by kernel_rfl) (by kernel_rfl) (fun _ _ _ h => h) (by rfl) ?hc2yx13 hHeld ?rc2yx13
          case hc2yx13 => (intro w' hSw; (try dsimp only at hSw); go_simp <;> with_reducible rfl)
          try simp only [Act.put, List.setIfInBounds_toArray, List.set_cons_zero, List.set_cons_succ]
          refine take_op (i := 13) (d := 65) (OP := Go.Op.fieldAddr 56 (Go.Operand.tmp 64) 1) (T := 0) (v := ?vc2yx14) rfl rfl rfl rfl (by kernel_rfl) (by kernel_rfl) (by kernel_rfl) (fun _ _ _ h => h) (by rfl) ?hc2yx14 hHeld ?rc2yx14
          case hc2yx14 => (intro w' hSw; (try dsimp only at hSw); go_simp <;> with_reducible rfl)
          try simp only [Act.put, List.setIfInBounds_toArray, List.set_cons_zero, List.set_cons_succ]
          refine take_op (i := 14) (d := 66) (OP := Go.Op.load 3 (Go.Operand.tmp 65)) (T := 3) (v := ?vc2yx15) rfl rfl rfl rfl (by kernel_rfl) (by kernel_rfl) (by kernel_rfl) (fun _ _ _ h => h) (by rfl) ?hc2yx15 hHeld ?rc2yx15
          case hc2yx15 => (intro w' hSw; (try dsimp only at hSw); go_simp <;> with_reducible rfl)
          try simp only [Act.put, List.setIfInBounds_toArray, List.set_cons_zero, List.set_cons_succ]
          refine take_op (i := 15) (d := 67) (OP := Go.Op.slice 26 (Go.Operand.tmp 55) (some (Go.Operand.tmp 62)) (some (Go.Operand.tmp 66)) none) (T := 26) (v := ?vc2yx16) rfl rfl rfl rfl (by kernel_rfl) (by kernel_rfl) (by kernel_rfl) (fun _ _ _ h => h) (by rfl) ?hc2yx16 hHeld ?rc2yx16
          case hc2yx16 => (intro w' hSw; (try dsimp only at hSw); go_simp <;> with_reducible rfl)
          try simp only [Act.put, List.setIfInBounds_toArray, List.set_cons_zero, List.set_cons_succ]
          refine append_op (i := 16) (d := 68) (.const (.slice none 0 0)) (.tmp 67) 26 rfl rfl rfl (by kernel_rfl) (by rfl) w.heap.size 5 i0 Tryz.underlying26 hi hz0 hz1 hz2 (.slice none 0 0) [] rfl (Own.nil 5 _ _) (bo3.map (fun x => x.add at1)) (cap3 - at1) ((l.drop k).take n) (by rw [hln]; rfl) (by exact hnn) (by exact hRs) (by rw [hln]; simp; omega) (by exact hszw) ?_
          intro ao2 cap2 w2 hown2 hg2 hnil2
          have hS2 : w2.cell? ⟨D, 0, none⟩ = some (.slice bo3 LB.length cap3) ∧ w2.cell? ⟨D, 1, none⟩ = some (.int .i64 ((at1 : Int) + (n : Int))) := ⟨hg2.cell hS.1 (by simp [Value.ownBlock]), hg2.cell hS.2 (by simp [Value.ownBlock])⟩
          refine ⟨hS2, ?_⟩
          replace hHeld := hS2
          try simp only [Act.put, List.setIfInBounds_toArray, List.set_cons_zero, List.set_cons_succ]
          refine take_op (i := 17) (d := 4) (OP := Go.Op.assign (Go.Operand.tmp 68)) (T := 26) (v := ?vd2yx1) rfl rfl rfl rfl (by kernel_rfl) (by kernel_rfl) (by kernel_rfl) (fun _ _ _ h => h) (by rfl) ?hd2yx1 hHeld ?rd2yx1
          case hd2yx1 => (intro w' hSw; (try dsimp only at hSw); go_simp <;> with_reducible rfl)
          try simp only [Act.put, List.setIfInBounds_toArray, List.set_cons_zero, List.set_cons_succ]
          refine take_op (i := 18) (d := 5) (OP := Go.Op.assign (Go.Operand.const (Go.Value.int Go.IntKind.i64 0))) (T := 3) (v := ?vd2yx2) rfl rfl rfl rfl (by kernel_rfl) (by kernel_rfl) (by kernel_rfl) (fun _ _ _ h => h) (by rfl) ?hd2yx2 hHeld ?rd2yx2
          case hd2yx2 => (intro w' hSw; (try dsimp only at hSw); go_simp <;> with_reducible rfl)
          try simp only [Act.put, List.setIfInBounds_toArray, List.set_cons_zero, List.set_cons_succ]
          refine wpAnyH_done (by kernel_rfl) ?_ _
          go_wp2
          go_ret2
          rw [HB.out]
          have hg3 : ((w1.drewN nq).setCell ⟨D, 1, none⟩ (.int .i64 ((at1 : Int) + (n : Int)))).grownBy w2 none := ⟨hg2.os, hg2.tape, hg2.output, hg2.size, hg2.block⟩
          refine ⟨ao2, cap2, ?_, ?_, hnil2, HR1.out.kept hg3 (by simp), grown_trans HR2.out ⟨hg2.os, hg2.tape, hg2.output, hg2.size, fun j hj _ => hg2.block j hj (by simp [Value.ownBlock])⟩⟩
          · exact ret_two (by simp; omega) rfl
          · simpa using hown2
end Go.Proofs.YtpepgoelnagoaaaGreatDoor
namespace Go.Proofs.YtpepgoelnagoaaaGreatDoor
open Go.RowKit Go.Shelf
variable {K : Nat → Prop}
set_option linter.unusedSimpArgs false
variable {T : Nat}
attribute [local go_sem] Oper.semAt_some

theorem wrap_not (n : Int) (h0 : -9223372036854775808 ≤ n) (h1 : n < 0) : IntKind.u64.wrap (IntKind.u64.wrap (2 * IntKind.u64.wrap (-1 - n)) + 1) = 2 * (-1 - n) + 1 := by
  simp [IntKind.wrap, IntKind.bits, IntKind.signed]; omega
set_option maxHeartbeats 400000 in
set_option maxRecDepth 100000 in
theorem signed_any (n : Int) (w : World) (h0 : -9223372036854775808 ≤ n) (h1 : n ≤ 9223372036854775807) :
    Calls Tryz.prog 134 #[.int .i64 n] w fun e w' => Made 5 w w' e (Plain.numL (Plain.fold n)) := by
  by_cases hneg : n < 0
  · have hx := i64_not_any n h0 h1
    have hu := wrap_not n h0 hneg
    have HF : Hid (Plain.fold n = (2 * (-1 - n) + 1).toNat) := by show Plain.fold n = _; unfold Plain.fold; rw [if_pos hneg]; omega
    go_enter Tryz.func134, Tryz.ntmps134
    go_wp2_with (go_at_call 97; refine (number_int _ _ (by omega) (by omega)).mono ?_; rintro e w1 ⟨ao, cap, rfl, hown, hnil, hb⟩)
    go_ret
    rw [HF.out]
    exact ⟨ao, cap, rfl, hown, hnil, hb⟩
  · have HF : Hid (Plain.fold n = (2 * n).toNat) := by show Plain.fold n = _; unfold Plain.fold; rw [if_neg hneg]
    go_enter Tryz.func134, Tryz.ntmps134
    go_wp2_with (go_at_call 97; refine (number_int _ _ (by omega) (by omega)).mono ?_; rintro e w1 ⟨ao, cap, rfl, hown, hnil, hb⟩)
    go_ret
    rw [HF.out]
    exact ⟨ao, cap, rfl, hown, hnil, hb⟩

set_option maxHeartbeats 400000 in
set_option maxRecDepth 100000 in
theorem folded_any (n : Int) (w : World) (h0 : -9223372036854775808 ≤ n) (h1 : n ≤ 9223372036854775807) :
    Calls Tryz.prog 106 #[.int .i64 n] w fun e w' => e = .returned (.int .u64 (Plain.fold n)) ∧ w' = w := by
  by_cases hneg : n < 0
  · go_enter Tryz.func106, Tryz.ntmps106
    go_wp2
    go_ret
    exact ⟨ret_int (Plain.fold_neg hneg).symm, rfl⟩
  · go_enter Tryz.func106, Tryz.ntmps106
    go_wp2
    go_ret
    exact ⟨ret_int (Plain.fold_pos (by omega)).symm, rfl⟩

set_option maxHeartbeats 400000 in
set_option maxRecDepth 100000 in
theorem refSigned_any (n : Int) (w : World) (h0 : -9223372036854775808 ≤ n) (h1 : n ≤ 9223372036854775807) :
    Calls Tryz.prog 55 #[.int .i64 n] w fun e w' => Made 5 w w' e (Plain.numL (Plain.fold n)) := by
  have hf := Plain.fold_lt n h0 h1
  go_enter Tryz.func55, Tryz.ntmps55
  go_wp2_with (first | (go_at_call 106; refine (folded_any _ _ h0 h1).mono ?_; rintro e w1 ⟨rfl, rfl⟩) | (go_at_call 53; refine (refNumber_any _ _ hf).mono ?_; rintro e w1 ⟨ao, cap, rfl, hown, hnil, hb⟩))
  go_ret
  exact ⟨ao, cap, rfl, hown, hnil, hb⟩

/-- Back from a number without a sign. -/
def unfoldN (n : Nat) : Int := if n % 2 = 1 then -1 - (n / 2 : Nat) else (n / 2 : Nat)

set_option maxHeartbeats 400000 in
set_option maxRecDepth 100000 in
theorem rsigned_any (R S : Nat) (l : List Int) (w : World) (hR : Rdr K 77 w R S l) (hlt : (rnum l).1 < 18446744073709551616) :
    Calls Tryz.prog 226 #[.pointer (some ⟨R, 0, none⟩)] w fun e w' =>
      e = .returned (.tuple #[.int .i64 (unfoldN (rnum l).1), .int .i64 (rnum l).2.1]) ∧ Rdr K 77 w' R S (rnum l).2.2 ∧ w.grownBy w' (some R) := by
  have hc := rnumber_any R S l w hR
  unfold NumPost at hc
  generalize rnum l = q at *
  obtain ⟨n, er, l'⟩ := q
  simp only at *
  have hx : bits .xor .i64 (-1) ((n : Int) / 2) = -1 - (n : Int) / 2 := i64_not_any _ (by omega) (by omega)
  have HC := hc
  clear hc
  by_cases h2 : n % 2 = 1
  · have hu : unfoldN n = -1 - ((n / 2 : Nat) : Int) := by unfold unfoldN; rw [if_pos h2]
    have HU : Hid (unfoldN n = -1 - ((n / 2 : Nat) : Int)) := hu
    clear hu
    have hd : (((n : Int) % 2) == 1) = true := by simp; omega
    go_enter Tryz.func226, Tryz.ntmps226
    go_wp2_with (go_at_call 177; refine HC.mono ?_; rintro e w1 ⟨rfl, hR1, hg1⟩)
    go_ret2
    exact ⟨ret_two (by rw [HU.out]; go_num) rfl, hR1, hg1⟩
  · have hu : unfoldN n = ((n / 2 : Nat) : Int) := by unfold unfoldN; rw [if_neg h2]
    have HU : Hid (unfoldN n = ((n / 2 : Nat) : Int)) := hu
    clear hu
    have hd : (((n : Int) % 2) == 1) = false := by simp; omega
    go_enter Tryz.func226, Tryz.ntmps226
    go_wp2_with (go_at_call 177; refine HC.mono ?_; rintro e w1 ⟨rfl, hR1, hg1⟩)
    go_ret2
    exact ⟨ret_two (by rw [HU.out]; go_num) rfl, hR1, hg1⟩

set_option maxHeartbeats 400000 in
set_option maxRecDepth 100000 in
theorem unfolded_any (n : Nat) (w : World) (hn : n < 18446744073709551616) :
    Calls Tryz.prog 116 #[.int .u64 n] w fun e w' => e = .returned (.int .i64 (unfoldN n)) ∧ w = w' := by
  by_cases h2 : n % 2 = 1
  · have HU : Hid (unfoldN n = -1 - ((n / 2 : Nat) : Int)) := by show unfoldN n = _; unfold unfoldN; rw [if_pos h2]
    have hd : (((n : Int) % 2) == 1) = true := by simp; omega
    go_enter Tryz.func116, Tryz.ntmps116
    go_wp2
    go_ret
    exact ⟨ret_int (by rw [HU.out]; omega), rfl⟩
  · have HU : Hid (unfoldN n = ((n / 2 : Nat) : Int)) := by show unfoldN n = _; unfold unfoldN; rw [if_neg h2]
    have hd : (((n : Int) % 2) == 1) = false := by simp; omega
    go_enter Tryz.func116, Tryz.ntmps116
    go_wp2
    go_ret
    exact ⟨ret_int (by rw [HU.out]; omega), rfl⟩

set_option maxHeartbeats 400000 in
set_option maxRecDepth 100000 in
theorem dsigned_any (D : Nat) (LB l : List Int) (w : World) (hD : Doc T w D LB l) (hlt : (rnum l).1 < 18446744073709551616) :
    Calls Tryz.prog 73 #[.pointer (some ⟨D, 0, none⟩)] w fun e w' =>
      e = .returned (.tuple #[.int .i64 (unfoldN (rnum l).1), .int .i64 (rnum l).2.1]) ∧ Doc T w' D LB (rnum l).2.2 ∧ w.grownBy w' (some D) := by
  have hc := dnumber_any D LB l w hD
  generalize rnum l = q at *
  obtain ⟨n, er, l'⟩ := q
  simp only at *
  go_enter Tryz.func73, Tryz.ntmps73
  go_wp2_with (first | (go_at_call 71; refine hc.mono ?_; rintro e w1 ⟨rfl, hR1, hg1⟩) | (go_at_call 116; refine (unfolded_any n _ hlt).mono ?_; rintro e w2 ⟨rfl, rfl⟩))
  go_ret2
  exact ⟨rfl, hR1, hg1⟩
end Go.Proofs.YtpepgoelnagoaaaGreatDoor
