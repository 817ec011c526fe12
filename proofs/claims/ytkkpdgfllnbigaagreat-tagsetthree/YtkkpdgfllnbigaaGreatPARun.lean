/-
  walk: THE WALK'S CLOSURE, the base apart from the first side.
-/
import Derived.Test.YtkkpdgfllnbigaaGreatPAp
import Derived.Test.YtkkpdgfllnbigaaGreatPAOrd
import Derived.Test.YtkkpdgfllnbigaaGreatMg14
namespace Go.Proofs.YtkkpdgfllnbigaaGreat.Pm
open Go.RowKit Go.Shelf
set_option linter.unusedSimpArgs false
set_option maxHeartbeats 8000000 in
set_option maxRecDepth 100000 in
theorem run_apart {V : ByteArray → ByteArray × Bool → Prop} {R : ByteArray → ByteArray × Bool → ByteArray × Bool → ByteArray × Bool → ByteArray × Bool} {J : List ByteArray → World → Prop} {A : ByteArray → ByteArray × Bool → ByteArray × Bool → ByteArray × Bool → Prop} {B Tk Rn Ru g : Nat} {caps : Array Value} (hR : FairA V R) (hru : RuleOk A B Tk g caps R J) (hTk : B ≤ Tk) :
    ∀ (N : Nat) (o a b : T) (w : World) (ks : List ByteArray) (x y z : Int), a.n + b.n ≤ N → 0 ≤ x → x + N ≤ 100000 → 0 ≤ y → y + N ≤ 100000 → ks.length + N ≤ 100000 → Trio V w o a b → Apart o a → AskOk A o a b → REnv w Tk Rn Ru (.func (.func g) #[] caps) x y z → J ks w → B ≤ w.heap.size →
    Calls Tryz.prog 223 #[mv o, mv a, mv b, .pointer (some ⟨Tk, 0, none⟩), .pointer (some ⟨Rn, 0, none⟩), .pointer (some ⟨Ru, 0, none⟩)] w fun e w' => ∃ t ks', e = .returned (mv t) ∧ RunsA w.heap.size R o a b t ks' ∧ In w' t ∧ J (ks ++ ks') w' ∧ REnv w' Tk Rn Ru (.func (.func g) #[] caps) (x + ks'.length) (y + ks'.length) z ∧ Goes B Tk w w' := by
  intro N
  induction N using Nat.strongRecOn with
  | ind N ih =>
  intro o a b w ks x y z hN hx0 hxN hy0 hyN hkN ht hap hask he hj hB
  by_cases hu : a = b ∨ o = a ∨ o = b
  · refine (run_unread o a b _ _ _ w ht.io ht.ia ht.ib hu).mono ?_
    rintro e w' ⟨rfl, iu, hb⟩
    refine ⟨unread o a b, [], rfl, ?_, iu, by rw [List.append_nil]; exact hru.below hj hb, by simpa using he.below hb, Goes.of hb hB⟩
    unfold unread
    by_cases e1 : a = b
    · subst e1; rw [if_pos rfl]; exact .same
    · rw [if_neg e1]
      by_cases e2 : o = a
      · subst e2; rw [if_pos rfl]; have e0 := hap.self; subst e0; exact .left e1
      · rw [if_neg e2]
        have e3 : o = b := by rcases hu with h | h | h <;> first | exact (e1 h).elim | exact (e2 h).elim | exact h
        subst e3; exact .right e1
  · have HAP0 := hide hap
    clear hap
    have n1 : a ≠ b := fun e => hu (.inl e)
    have n2 : o ≠ a := fun e => hu (.inr (.inl e))
    have n3 : o ≠ b := fun e => hu (.inr (.inr e))
    obtain ⟨m0, m1, m2, m3, hb⟩ := new4 w (.cells #[o.ptr] 27) (.cells #[a.ptr] 27) (.cells #[b.ptr] 27) (.cells #[.pointer none] 27)
    have c1 := fun W (hW : Below w.heap.size w W) => mSame_any a b W (In.below hW ht.ia) (In.below hW ht.ib)
    have c2 := fun W (hW : Below w.heap.size w W) => mSame_any o a W (In.below hW ht.io) (In.below hW ht.ia)
    have c3 := fun W (hW : Below w.heap.size w W) => mSame_any o b W (In.below hW ht.io) (In.below hW ht.ib)
    have c4 := fun W (hW : Below w.heap.size w W) => top_any a b W (In.below hW ht.ia) (In.below hW ht.ib)
    obtain ⟨po, ho⟩ := o.ptr_shape
    obtain ⟨pa, ha⟩ := a.ptr_shape
    obtain ⟨pb, hb'⟩ := b.ptr_shape
    rw [mv_ptr ho, mv_ptr ha, mv_ptr hb']
    simp only [decide_eq_false n1, mv_ptr ha, mv_ptr hb'] at c1
    simp only [decide_eq_false n2, mv_ptr ho, mv_ptr ha] at c2
    simp only [decide_eq_false n3, mv_ptr ho, mv_ptr hb'] at c3
    rw [mv_ptr ha, mv_ptr hb'] at c4
    rw [ho, ha, hb'] at m0 m1 m2 m3 hb
    obtain ⟨K, hK⟩ : ∃ K, K = topK a b := ⟨_, rfl⟩
    replace c4 : ∀ W, Below w.heap.size w W → Calls Tryz.prog 224 #[.agg #[.pointer pa], .agg #[.pointer pb]] W fun e w' => e = .returned (.string K) ∧ Below W.heap.size W w' := by rw [hK]; exact c4
    obtain ⟨w0, hw0⟩ : ∃ w0, w0 = ((((w.alloc (.cells #[.pointer po] 27)).alloc (.cells #[.pointer pa] 27)).alloc (.cells #[.pointer pb] 27)).alloc (.cells #[.pointer none] 27)) := ⟨_, rfl⟩
    rw [← hw0] at m0 m1 m2 m3 hb
    have tell : ∀ W, Below w0.heap.size w0 W → W.cell? ⟨w.heap.size, 0, none⟩ = some (.pointer po) ∧ W.cell? ⟨w.heap.size + 1, 0, none⟩ = some (.pointer pa) ∧ W.cell? ⟨w.heap.size + 1 + 1, 0, none⟩ = some (.pointer pb) ∧ Hid (W.heap[w.heap.size]? = some (.cells #[.pointer po] 27 (0, 0)) ∧ W.heap[w.heap.size + 1]? = some (.cells #[.pointer pa] 27 (0, 0)) ∧ W.heap[w.heap.size + 1 + 1]? = some (.cells #[.pointer pb] 27 (0, 0)) ∧ W.heap[w.heap.size + 1 + 1 + 1]? = some (.cells #[.pointer none] 27 (0, 0)) ∧ Below w.heap.size w W) := fun W hW => by
      have k0 := (hW.block _ (gI m0).1).trans m0
      have k1 := (hW.block _ (gI m1).1).trans m1
      have k2 := (hW.block _ (gI m2).1).trans m2
      have k3 := (hW.block _ (gI m3).1).trans m3
      exact ⟨(cell_of_row _ _ 0 _ 27 (0, 0) k0).trans rfl, (cell_of_row _ _ 0 _ 27 (0, 0) k1).trans rfl, (cell_of_row _ _ 0 _ 27 (0, 0) k2).trans rfl, hide ⟨k0, k1, k2, k3, hb.trans (hW.mono hb.size)⟩⟩
    have HT := hide tell
    have HZ := hide (And.intro n1 (And.intro n2 (And.intro n3 (And.intro ht (And.intro he (And.intro hj (And.intro hK (And.intro ho (And.intro ha hb')))))))))
    have hb0 := hide hb
    have IH := hide ih
    clear tell m0 m1 m2 m3 hb n1 n2 n3 hu ht hj ho ha hb' ih hK
    have tk : True := trivial
    have tk2 : True ∧ True := ⟨trivial, trivial⟩
    have hkw : (0 : Nat) = 0 := rfl
    go_enter Tryz.func223, Tryz.ntmps223
    go_upto_region 1 with (fail)
    rw [← hw0]
    obtain ⟨t0, t1, t2, _⟩ := HT.out w0 (Below.refl _ _)
    clear hw0
    go_upto_region 8 with (first
      | (go_at_call 79; clear tk; refine (c1 w0 hb0.out).mono ?_; rintro e w1 ⟨rfl, bb⟩; have b1 : Below w0.heap.size w0 w1 := bb; obtain ⟨t0, t1, t2, HHw1⟩ := HT.out w1 b1; clear HHw1 bb; replace b1 := hide b1; dsimp only)
      | (go_at_call 79; clear tk2; refine (c2 w1 (hb0.out.trans (b1.out.mono hb0.out.size))).mono ?_; rintro e w2 ⟨rfl, bb⟩; have b2 : Below w0.heap.size w0 w2 := b1.out.trans (bb.mono b1.out.size); obtain ⟨t0, t1, t2, HHw2⟩ := HT.out w2 b2; clear HHw2 bb; replace b2 := hide b2; dsimp only)
      | (go_at_call 79; refine (c3 w2 (hb0.out.trans (b2.out.mono hb0.out.size))).mono ?_; rintro e w3 ⟨rfl, bb⟩; have b3 : Below w0.heap.size w0 w3 := b2.out.trans (bb.mono b2.out.size); obtain ⟨t0, t1, t2, HHw3⟩ := HT.out w3 b3; clear HHw3 bb; replace b3 := hide b3; dsimp only)
      | (go_at_call 224; refine (c4 w3 (hb0.out.trans (b3.out.mono hb0.out.size))).mono ?_; rintro e w4 ⟨rfl, bb⟩; have b4 : Below w0.heap.size w0 w4 := b3.out.trans (bb.mono b3.out.size); obtain ⟨t0, t1, t2, HHw4⟩ := HT.out w4 b4; clear HHw4 bb; replace b4 := hide b4; dsimp only))
    obtain ⟨n1, n2, n3, ht, he, hj, hK, ho, ha, hb'⟩ := HZ.out
    have HKK := hide hK
    clear hK n1 n2 n3
    obtain ⟨s0, s1, s2, HH⟩ := HT.out w4 b4.out
    obtain ⟨r0, r1, r2, r3, bw4⟩ := HH.out
    have he4 := he.below bw4
    have hj4 := hru.below hj bw4
    have k0 : w4.cell? ⟨Tk, 0, none⟩ = some (.int .i64 x) := (cell_of_row _ _ 0 _ 136 (0, 0) he4.took).trans rfl
    have f0 : w4.frozen? ⟨Tk, 0, none⟩ = false := frozen_of_row _ _ 0 _ 136 he4.took
    have wx : IntKind.i64.wrap (x + 1) = x + 1 := by rw [IntKind.wrap_i64]; omega
    have g5 : Goes B Tk w4 (w4.setCell ⟨Tk, 0, none⟩ (.int .i64 (x + 1))) := Goes.set _ he4.took hTk (by unfold keepTy; decide)
    obtain ⟨u5, o5⟩ := set_one (i := 0) (.int .i64 (x + 1)) he4.took
    have hj5 : J ks (w4.setCell ⟨Tk, 0, none⟩ (.int .i64 (x + 1))) := hru.set hj4 o5 hTk he4.took
    obtain ⟨w5, hw5⟩ : ∃ w5, w5 = w4.setCell ⟨Tk, 0, none⟩ (.int .i64 (x + 1)) := ⟨_, rfl⟩
    go_upto_region 9 with (fail)
    rw [← hw5]
    rw [← hw5] at g5 u5 hj5
    clear hw5 o5
    have he5 : REnv w5 Tk Rn Ru (.func (.func g) #[] caps) (x + 1) y z := ⟨g5.own _ _ _ _ he4.run (by unfold keepTy; decide), g5.own _ _ _ _ he4.rule (by unfold keepTy; decide), by simpa using u5⟩
    have q0r := g5.own _ _ _ _ r0 (by unfold keepTy; decide)
    have q1r := g5.own _ _ _ _ r1 (by unfold keepTy; decide)
    have q2r := g5.own _ _ _ _ r2 (by unfold keepTy; decide)
    have q3r := g5.own _ _ _ _ r3 (by unfold keepTy; decide)
    have hg5 : Goes B Tk w w5 := (Goes.of bw4 hB).trans g5
    have hsz5 : w.heap.size ≤ w5.heap.size := hg5.low.size
    have hlt3 := (gI q3r).1
    have ht5 := ht.goes hg5
    have hno := ht.no
    have hnab := ht.nab
    have cut : ∀ (s : T) (ps : Option Addr), s.ptr = .pointer ps → In w5 s → s.n ≤ 1000 → ∀ W, Below w5.heap.size w5 W → Calls Tryz.prog 225 #[.agg #[.pointer ps], .string K] W fun e w' => ∃ v, e = .returned v ∧ CutIs w.heap.size K s v w' ∧ Below W.heap.size W w' := fun s ps hps is hn W hW => by
      have := cutAt_any s K W (In.below hW is) (by omega)
      rw [mv_ptr hps] at this
      refine this.mono ?_
      rintro e w' ⟨s1, f, s2, he, hsp, i1, i2, hbl⟩
      exact ⟨_, he, ⟨s1, f, s2, rfl, hsp.mono (Nat.le_trans hsz5 hW.size), i1, i2⟩, hbl⟩
    have pers : ∀ (s : T) (v : Value) (W W' : World), CutIs w.heap.size K s v W → Below W.heap.size W W' → CutIs w.heap.size K s v W' := fun s v W W' ⟨s1, f, s2, hv, hsp, i1, i2⟩ hbl => ⟨s1, f, s2, hv, hsp, In.below hbl i1, In.below hbl i2⟩
    have q0 : w5.cell? ⟨w.heap.size, 0, none⟩ = some (.pointer po) ∧ w5.cell? ⟨w.heap.size + 1, 0, none⟩ = some (.pointer pa) ∧ w5.cell? ⟨w.heap.size + 1 + 1, 0, none⟩ = some (.pointer pb) ∧ Hid (Below w5.heap.size w5 w5) := ⟨(cell_of_row _ _ 0 _ 27 (0, 0) q0r).trans rfl, (cell_of_row _ _ 0 _ 27 (0, 0) q1r).trans rfl, (cell_of_row _ _ 0 _ 27 (0, 0) q2r).trans rfl, hide (Below.refl _ _)⟩
    have cuto : ∀ W, Below w5.heap.size w5 W → Calls Tryz.prog 225 #[.agg #[.pointer po], .string K] W fun e w' => ∃ v, e = .returned v ∧ CutO w5.heap.size K o v w' ∧ Below W.heap.size W w' := fun W hW => by
      have := cutAt_any o K W (In.below hW ht5.io) (by omega)
      rw [mv_ptr ho] at this
      refine this.mono ?_
      rintro e w' ⟨s1, f, s2, he, hsp, i1, i2, hbl⟩
      exact ⟨_, he, ⟨s1, f, s2, _, w', rfl, hsp, hW.size, i1, i2, Below.refl _ _⟩, hbl⟩
    have cuta : ∀ v2 W, CutO w5.heap.size K o v2 W → Below w5.heap.size w5 W → Calls Tryz.prog 225 #[.agg #[.pointer pa], .string K] W fun e w' => ∃ v, e = .returned v ∧ CutA w.heap.size K o a v2 v w' ∧ Below W.heap.size W w' := fun v2 W hc hW => by
      obtain ⟨o1, f, o2, B0, W1, e2, so, hm, i1, i2, hW1⟩ := hc
      have := cutAt_any a K W (In.below hW ht5.ia) (by omega)
      rw [mv_ptr ha] at this
      refine this.mono ?_
      rintro e w' ⟨s1, g, s2, he, hsp, i3, i4, hbl⟩
      obtain ⟨p1, p2⟩ := HAP0.out.cut so hsp ht5.ia hm i1 i2 hW1.size
      exact ⟨_, he, ⟨o1, f, o2, s1, g, s2, e2, rfl, so.mono (Nat.le_trans hsz5 hm), In.below hbl (In.below hW1 i1), In.below hbl (In.below hW1 i2), hsp.mono (Nat.le_trans hsz5 hW.size), i3, i4, p1, p2⟩, hbl⟩
    have cutb := cut b pb hb' ht5.ib (by omega)
    have HCC := hide (And.intro cuto (And.intro cuta cutb))
    have HPS := hide pers
    have HQ5 := hide (And.intro q0r (And.intro q1r (And.intro q2r (And.intro q3r (And.intro hg5 (And.intro he5 hj5))))))
    clear cut cuto cuta cutb pers q0r q1r q2r q3r k0 f0 wx g5 u5 s0 s1 s2 HH r0 r1 r2 r3 bw4 he4 hj4 t0 t1 t2 c1 c2 c3 c4 he5 hj5 hj he hg5
    have qd : w5.drew.cell? ⟨w.heap.size, 0, none⟩ = some (.pointer po) ∧ w5.drew.cell? ⟨w.heap.size + 1, 0, none⟩ = some (.pointer pa) ∧ w5.drew.cell? ⟨w.heap.size + 1 + 1, 0, none⟩ = some (.pointer pb) ∧ Hid (Below w5.heap.size w5 w5.drew) := ⟨q0.1, q0.2.1, q0.2.2.1, hide (q0.2.2.2.out.trans ((drew_below w5).mono q0.2.2.2.out.size))⟩
    refine wp_region_held_drew (S := (fun w' => w'.cell? ⟨w.heap.size, 0, none⟩ = some (.pointer po) ∧ w'.cell? ⟨w.heap.size + 1, 0, none⟩ = some (.pointer pa) ∧ w'.cell? ⟨w.heap.size + 1 + 1, 0, none⟩ = some (.pointer pb) ∧ Hid (Below w5.heap.size w5 w'))) (by kernel_rfl) qd (fun hHeld => ?_)
    try dsimp only at hHeld
    refine take_op (i := 0) (d := 40) (OP := Op.load 27 (Operand.tmp 6)) (T := 27) (v := ?v1) rfl rfl rfl rfl (by kernel_rfl) (by kernel_rfl) (by kernel_rfl) (fun _ _ _ h => h) (by rfl) ?h1 hHeld ?r1
    case h1 => (intro w' hSw; (try dsimp only at hSw); go_simp <;> with_reducible rfl)
    try simp only [Act.put, sI, sZ, sS]
    refine take_op (i := 1) (d := 41) (OP := Op.move (Operand.tmp 10)) (T := 9) (v := ?v2) rfl rfl rfl rfl (by kernel_rfl) (by kernel_rfl) (by kernel_rfl) (fun _ _ _ h => h) (by rfl) ?h2 hHeld ?r2
    case h2 => (intro w' hSw; (try dsimp only at hSw); go_simp <;> with_reducible rfl)
    try simp only [Act.put, sI, sZ, sS]
    refine take_op (i := 3) (d := 43) (OP := Op.load 27 (Operand.tmp 7)) (T := 27) (v := ?v3) rfl rfl rfl rfl (by kernel_rfl) (by kernel_rfl) (by kernel_rfl) (fun _ _ _ h => h) (by rfl) ?h3 hHeld ?r3
    case h3 => (intro w' hSw; (try dsimp only at hSw); go_simp <;> with_reducible rfl)
    try simp only [Act.put, sI, sZ, sS]
    refine take_op (i := 4) (d := 44) (OP := Op.move (Operand.tmp 10)) (T := 9) (v := ?v4) rfl rfl rfl rfl (by kernel_rfl) (by kernel_rfl) (by kernel_rfl) (fun _ _ _ h => h) (by rfl) ?h4 hHeld ?r4
    case h4 => (intro w' hSw; (try dsimp only at hSw); go_simp <;> with_reducible rfl)
    try simp only [Act.put, sI, sZ, sS]
    refine take_op (i := 6) (d := 46) (OP := Op.load 27 (Operand.tmp 8)) (T := 27) (v := ?v5) rfl rfl rfl rfl (by kernel_rfl) (by kernel_rfl) (by kernel_rfl) (fun _ _ _ h => h) (by rfl) ?h5 hHeld ?r5
    case h5 => (intro w' hSw; (try dsimp only at hSw); go_simp <;> with_reducible rfl)
    try simp only [Act.put, sI, sZ, sS]
    refine take_op (i := 7) (d := 47) (OP := Op.move (Operand.tmp 10)) (T := 9) (v := ?v6) rfl rfl rfl rfl (by kernel_rfl) (by kernel_rfl) (by kernel_rfl) (fun _ _ _ h => h) (by rfl) ?h6 hHeld ?r6
    case h6 => (intro w' hSw; (try dsimp only at hSw); go_simp <;> with_reducible rfl)
    try simp only [Act.put, sI, sZ, sS]
    refine to_reg9 (ops' := ops9) (l' := #[true, true, false, true, true, false, true, true, false, false, false, false, false, false, false]) rfl (by kernel_rfl) ?_
    refine reg9_dep (w0 := w5) (C2 := CutO w5.heap.size K o) (C5 := CutA w.heap.size K o a) (C8 := CutIs w.heap.size K b) (x2 := .agg #[.pointer po]) (k2 := .string K) (x5 := .agg #[.pointer pa]) (k5 := .string K) (x8 := .agg #[.pointer pb]) (k8 := .string K) (by simp [Act.eval]) (by simp [Act.eval]) (by simp [Act.eval]) (by simp [Act.eval]) (by simp [Act.eval]) (by simp [Act.eval]) (fun W hW => ⟨cell_stays q0.1 hW, cell_stays q0.2.1 hW, cell_stays q0.2.2.1 hW, hide hW⟩) HCC.out.1 HCC.out.2.1 HCC.out.2.2 (fun v W W' hc hb => CutO.below hc hb) (fun v2 v W W' hc hb => CutA.below hc hb) (HPS.out b) ?_ w5.drew (drew_below w5)
    rintro v2 v5 v8 B9 B10 B11 W hbW - ⟨o1, f, o2, a1, gg, a2, rfl, rfl, so, io1, io2, sa, ia1, ia2, ap1, ap2⟩ ⟨b1', hh, b2', rfl, sb, ib1, ib2⟩ z9 z10 z11 l9 l10 l11 n9 n10 n11
    have HAP := hide (And.intro ap1 ap2)
    clear ap1 ap2
    obtain ⟨po1, ho1⟩ := o1.ptr_shape
    obtain ⟨po2, ho2⟩ := o2.ptr_shape
    obtain ⟨pa1, ha1⟩ := a1.ptr_shape
    obtain ⟨pa2, ha2⟩ := a2.ptr_shape
    obtain ⟨pb1, hb1⟩ := b1'.ptr_shape
    obtain ⟨pb2, hb2⟩ := b2'.ptr_shape
    unfold cv
    rw [ho1, ho2, ha1, ha2, hb1, hb2]
    have HPP := hide (And.intro ho1 (And.intro ho2 (And.intro ha1 (And.intro ha2 (And.intro hb1 hb2)))))
    have HASK := hide (hask.sides (so.sides HZ.out.2.2.2.1.so) (sa.sides HZ.out.2.2.2.1.sa) (sb.sides HZ.out.2.2.2.1.sb))
    have HTOP : Hid (A K f.part gg.part hh.part) := hide (hask.top (so.sides HZ.out.2.2.2.1.so) (sa.sides HZ.out.2.2.2.1.sa) (sb.sides HZ.out.2.2.2.1.sb) (by have hK := HZ.out.2.2.2.2.2.2.1; have sa' := sa; have sb' := sb; rw [hK] at sa' sb'; exact top_has HZ.out.1 sa' sb' HZ.out.2.2.2.1.sa HZ.out.2.2.2.1.sb))
    clear hask
    have HSS := hide (And.intro so (And.intro sa (And.intro sb (And.intro io1 (And.intro io2 (And.intro ia1 (And.intro ia2 (And.intro ib1 ib2))))))))
    clear ho1 ho2 ha1 ha2 hb1 hb2 so sa sb io1 io2 ia1 ia2 ib1 ib2 hHeld qd HCC HPS ho ha hb'
    obtain ⟨F, hF⟩ : ∃ F : ByteArray × Bool, F = f.part := ⟨_, rfl⟩
    obtain ⟨G, hG⟩ : ∃ G : ByteArray × Bool, G = gg.part := ⟨_, rfl⟩
    obtain ⟨H, hH⟩ : ∃ H : ByteArray × Bool, H = hh.part := ⟨_, rfl⟩
    rw [show f.val = F.1 from by rw [hF]; rfl, show f.isSome = F.2 from by rw [hF]; rfl, show gg.val = G.1 from by rw [hG]; rfl, show gg.isSome = G.2 from by rw [hG]; rfl, show hh.val = H.1 from by rw [hH]; rfl, show hh.isSome = H.2 from by rw [hH]; rfl]
    have HFGH := hide (And.intro hF (And.intro hG hH))
    clear hF hG hH
    obtain ⟨F1, F2⟩ := F
    obtain ⟨G1, G2⟩ := G
    obtain ⟨H1, H2⟩ := H
    dsimp only
    try simp only [Act.put, sI, sZ, sS]
    have qW : W.cell? ⟨w.heap.size, 0, none⟩ = some (.pointer po) ∧ W.cell? ⟨w.heap.size + 1, 0, none⟩ = some (.pointer pa) ∧ W.cell? ⟨w.heap.size + 1 + 1, 0, none⟩ = some (.pointer pb) ∧ Hid (Below w5.heap.size w5 W) := ⟨cell_stays q0.1 hbW, cell_stays q0.2.1 hbW, cell_stays q0.2.2.1 hbW, hide hbW⟩
    have e0 : W.cell? ⟨B9, 0, none⟩ = some (.pointer none) := (cell_of_row _ _ 0 _ 213 (0, 0) z9).trans rfl
    have y0 : W.frozen? ⟨B9, 0, none⟩ = false := frozen_of_row _ _ 0 _ 213 z9
    have e1 : W.cell? ⟨B9, 1, none⟩ = some (.pointer none) := (cell_of_row _ _ 1 _ 213 (0, 0) z9).trans rfl
    have y1 : W.frozen? ⟨B9, 1, none⟩ = false := frozen_of_row _ _ 1 _ 213 z9
    have e2 : W.cell? ⟨B9, 2, none⟩ = some (.string ⟨#[]⟩) := (cell_of_row _ _ 2 _ 213 (0, 0) z9).trans rfl
    have y2 : W.frozen? ⟨B9, 2, none⟩ = false := frozen_of_row _ _ 2 _ 213 z9
    have e3 : W.cell? ⟨B9, 3, none⟩ = some (.bool false) := (cell_of_row _ _ 3 _ 213 (0, 0) z9).trans rfl
    have y3 : W.frozen? ⟨B9, 3, none⟩ = false := frozen_of_row _ _ 3 _ 213 z9
    obtain ⟨x9, o9⟩ := set4 (.pointer po1) (.pointer po2) (.string F1) (.bool F2) z9
    obtain ⟨wa, hwa⟩ : ∃ wa, wa = ((((W.setCell ⟨B9, 0, none⟩ (.pointer po1)).setCell ⟨B9, 1, none⟩ (.pointer po2)).setCell ⟨B9, 2, none⟩ (.string F1)).setCell ⟨B9, 3, none⟩ (.bool F2)) := ⟨_, rfl⟩
    rw [← hwa] at x9 o9
    have qwa : wa.cell? ⟨w.heap.size, 0, none⟩ = some (.pointer po) ∧ wa.cell? ⟨w.heap.size + 1, 0, none⟩ = some (.pointer pa) ∧ wa.cell? ⟨w.heap.size + 1 + 1, 0, none⟩ = some (.pointer pb) ∧ Hid (Below w5.heap.size w5 wa) := ⟨o9.cell qW.1 (by simp; omega), o9.cell qW.2.1 (by simp; omega), o9.cell qW.2.2.1 (by simp; omega), hide (Below.only qW.2.2.2.out o9 qW.2.2.2.out.size (fun j e => by omega))⟩
    have z10wa := (o9.block B10 (gI z10).1 (fun e => by omega)).trans z10
    have z11wa := (o9.block B11 (gI z11).1 (fun e => by omega)).trans z11
    refine skip_op (i := 12) (OP := Op.store 213 (Operand.tmp 11) (Operand.tmp 42)) (T := 0) (w' := wa) rfl rfl rfl rfl (by kernel_rfl) (by rfl) (by rw [hwa]; go_simp) ⟨qwa, ?_⟩
    try simp only [Act.put, sI, sZ, sS]
    clear e0 e1 e2 e3 y0 y1 y2 y3 hwa
    have e0 : wa.cell? ⟨B10, 0, none⟩ = some (.pointer none) := (cell_of_row _ _ 0 _ 213 (0, 0) z10wa).trans rfl
    have y0 : wa.frozen? ⟨B10, 0, none⟩ = false := frozen_of_row _ _ 0 _ 213 z10wa
    have e1 : wa.cell? ⟨B10, 1, none⟩ = some (.pointer none) := (cell_of_row _ _ 1 _ 213 (0, 0) z10wa).trans rfl
    have y1 : wa.frozen? ⟨B10, 1, none⟩ = false := frozen_of_row _ _ 1 _ 213 z10wa
    have e2 : wa.cell? ⟨B10, 2, none⟩ = some (.string ⟨#[]⟩) := (cell_of_row _ _ 2 _ 213 (0, 0) z10wa).trans rfl
    have y2 : wa.frozen? ⟨B10, 2, none⟩ = false := frozen_of_row _ _ 2 _ 213 z10wa
    have e3 : wa.cell? ⟨B10, 3, none⟩ = some (.bool false) := (cell_of_row _ _ 3 _ 213 (0, 0) z10wa).trans rfl
    have y3 : wa.frozen? ⟨B10, 3, none⟩ = false := frozen_of_row _ _ 3 _ 213 z10wa
    obtain ⟨x10, o10⟩ := set4 (.pointer pa1) (.pointer pa2) (.string G1) (.bool G2) z10wa
    obtain ⟨wb, hwb⟩ : ∃ wb, wb = ((((wa.setCell ⟨B10, 0, none⟩ (.pointer pa1)).setCell ⟨B10, 1, none⟩ (.pointer pa2)).setCell ⟨B10, 2, none⟩ (.string G1)).setCell ⟨B10, 3, none⟩ (.bool G2)) := ⟨_, rfl⟩
    rw [← hwb] at x10 o10
    have qwb : wb.cell? ⟨w.heap.size, 0, none⟩ = some (.pointer po) ∧ wb.cell? ⟨w.heap.size + 1, 0, none⟩ = some (.pointer pa) ∧ wb.cell? ⟨w.heap.size + 1 + 1, 0, none⟩ = some (.pointer pb) ∧ Hid (Below w5.heap.size w5 wb) := ⟨o10.cell qwa.1 (by simp; omega), o10.cell qwa.2.1 (by simp; omega), o10.cell qwa.2.2.1 (by simp; omega), hide (Below.only qwa.2.2.2.out o10 qwa.2.2.2.out.size (fun j e => by omega))⟩
    have x9wb := (o10.block B9 (gI x9).1 (fun e => by omega)).trans x9
    have z11wawb := (o10.block B11 (gI z11wa).1 (fun e => by omega)).trans z11wa
    refine skip_op (i := 13) (OP := Op.store 213 (Operand.tmp 12) (Operand.tmp 45)) (T := 0) (w' := wb) rfl rfl rfl rfl (by kernel_rfl) (by rfl) (by rw [hwb]; go_simp) ⟨qwb, ?_⟩
    try simp only [Act.put, sI, sZ, sS]
    clear e0 e1 e2 e3 y0 y1 y2 y3 hwb
    have e0 : wb.cell? ⟨B11, 0, none⟩ = some (.pointer none) := (cell_of_row _ _ 0 _ 213 (0, 0) z11wawb).trans rfl
    have y0 : wb.frozen? ⟨B11, 0, none⟩ = false := frozen_of_row _ _ 0 _ 213 z11wawb
    have e1 : wb.cell? ⟨B11, 1, none⟩ = some (.pointer none) := (cell_of_row _ _ 1 _ 213 (0, 0) z11wawb).trans rfl
    have y1 : wb.frozen? ⟨B11, 1, none⟩ = false := frozen_of_row _ _ 1 _ 213 z11wawb
    have e2 : wb.cell? ⟨B11, 2, none⟩ = some (.string ⟨#[]⟩) := (cell_of_row _ _ 2 _ 213 (0, 0) z11wawb).trans rfl
    have y2 : wb.frozen? ⟨B11, 2, none⟩ = false := frozen_of_row _ _ 2 _ 213 z11wawb
    have e3 : wb.cell? ⟨B11, 3, none⟩ = some (.bool false) := (cell_of_row _ _ 3 _ 213 (0, 0) z11wawb).trans rfl
    have y3 : wb.frozen? ⟨B11, 3, none⟩ = false := frozen_of_row _ _ 3 _ 213 z11wawb
    obtain ⟨x11, o11⟩ := set4 (.pointer pb1) (.pointer pb2) (.string H1) (.bool H2) z11wawb
    obtain ⟨wc, hwc⟩ : ∃ wc, wc = ((((wb.setCell ⟨B11, 0, none⟩ (.pointer pb1)).setCell ⟨B11, 1, none⟩ (.pointer pb2)).setCell ⟨B11, 2, none⟩ (.string H1)).setCell ⟨B11, 3, none⟩ (.bool H2)) := ⟨_, rfl⟩
    rw [← hwc] at x11 o11
    have qwc : wc.cell? ⟨w.heap.size, 0, none⟩ = some (.pointer po) ∧ wc.cell? ⟨w.heap.size + 1, 0, none⟩ = some (.pointer pa) ∧ wc.cell? ⟨w.heap.size + 1 + 1, 0, none⟩ = some (.pointer pb) ∧ Hid (Below w5.heap.size w5 wc) := ⟨o11.cell qwb.1 (by simp; omega), o11.cell qwb.2.1 (by simp; omega), o11.cell qwb.2.2.1 (by simp; omega), hide (Below.only qwb.2.2.2.out o11 qwb.2.2.2.out.size (fun j e => by omega))⟩
    have x9wbwc := (o11.block B9 (gI x9wb).1 (fun e => by omega)).trans x9wb
    have x10wc := (o11.block B10 (gI x10).1 (fun e => by omega)).trans x10
    refine skip_op (i := 14) (OP := Op.store 213 (Operand.tmp 13) (Operand.tmp 48)) (T := 0) (w' := wc) rfl rfl rfl rfl (by kernel_rfl) (by rfl) (by rw [hwc]; go_simp) ⟨qwc, ?_⟩
    try simp only [Act.put, sI, sZ, sS]
    clear e0 e1 e2 e3 y0 y1 y2 y3 hwc
    refine wpAnyH_done (by kernel_rfl) ?_ _
    obtain ⟨n1, n2, n3, ht, _, _, hK, ho, ha, hb'⟩ := HZ.out
    obtain ⟨so, sa, sb, io1, io2, ia1, ia2, ib1, ib2⟩ := HSS.out
    obtain ⟨q0r, q1r, q2r, q3r, hg5, he5, hj5⟩ := HQ5.out
    have bwc := qwc.2.2.2.out
    have ty70 : ∀ (W' : World) (Bk : Nat) (cs : Array Value), W'.heap[Bk]? = some (.cells cs 213 (0, 0)) → ∀ j, j = Bk → ∀ o', W'.heap[j]? = some o' → ∃ cur e fr, o' = .cells cur e fr ∧ e ≠ 162 := fun W' Bk cs hr j e o' ho' => by
      subst e
      rw [hr] at ho'
      cases ho'
      exact ⟨_, _, _, rfl, by decide⟩
    have up : ∀ {s : T}, In W s → In wc s := fun {s} is => In.typed o11 (ty70 wb B11 _ z11wawb) (In.typed o10 (ty70 wa B10 _ z10wa) (In.typed o9 (ty70 W B9 _ z9) is))
    have hec := he5.below bwc
    have hjc := hru.below hj5 bwc
    have hgc : Goes B Tk w wc := hg5.trans (Goes.of bwc (Nat.le_trans hB hg5.low.size))
    have row3 := (bwc.block _ (gI q3r).1).trans q3r
    obtain ⟨tr1, tr2⟩ := Trio.sides (W' := wc) ht hR.none so sa sb (up io1) (up io2) (up ia1) (up ia2) (up ib1) (up ib2)
    have hcnt := cut_count n1 (by rw [← hK]; exact sa) (by rw [← hK]; exact sb) ht.sa ht.sb
    have hBc : B ≤ wc.heap.size := Nat.le_trans hB hgc.low.size
    have hI1 := IH.out (a1.n + b1'.n) (by omega) o1 a1 b1' wc ks (x + 1) y z (Nat.le_refl _) (by omega) (by omega) hy0 (by omega) (by omega) tr1 HAP.out.1 HASK.out.1 hec hjc hBc
    rw [mv_ptr HPP.out.1, mv_ptr HPP.out.2.2.1, mv_ptr HPP.out.2.2.2.2.1] at hI1
    have cR : wc.cell? ⟨Rn, 0, none⟩ = some (.func (.func 223) #[] #[.pointer (some ⟨Tk, 0, none⟩), .pointer (some ⟨Rn, 0, none⟩), .pointer (some ⟨Ru, 0, none⟩)]) := (cell_of_row _ _ 0 _ 208 (0, 0) hec.run).trans rfl
    have d9 : wc.cell? ⟨B9, 0, none⟩ = some (.pointer po1) := (cell_of_row _ _ 0 _ 213 (0, 0) x9wbwc).trans rfl
    have d10 : wc.cell? ⟨B10, 0, none⟩ = some (.pointer pa1) := (cell_of_row _ _ 0 _ 213 (0, 0) x10wc).trans rfl
    have d11 : wc.cell? ⟨B11, 0, none⟩ = some (.pointer pb1) := (cell_of_row _ _ 0 _ 213 (0, 0) x11).trans rfl
    have HCc := hide (And.intro hgc (And.intro row3 (And.intro tr2 (And.intro hcnt (And.intro tr1 (And.intro x9wbwc (And.intro x10wc x11)))))))
    clear q0r q1r q2r q3r hg5 he5 hj5 bwc ty70 up hec hjc hgc row3 tr1 tr2 so sa sb io1 io2 ia1 ia2 ib1 ib2 hcnt ho ha hb' hK n1 n2 n3 qW qwa qwb qwc x9wbwc x10wc x11 x9wb x10 x9 o9 o10 o11 z9 z10 z11 z10wa z11wa z11wawb q0 ht
    go_upto_region 11 with (go_at_call 223; refine hI1.mono ?_; rintro e w7 ⟨t1, ks1, he, hrun1, it1, hj7, he7, hg7⟩; obtain ⟨p1, hp1⟩ := t1.ptr_shape; rw [mv_ptr hp1] at he; subst he; have H7 := hide (And.intro hp1 (And.intro hrun1 (And.intro it1 (And.intro hj7 (And.intro he7 hg7))))); clear hp1 hrun1 it1 hj7 he7 hg7; dsimp only)
    obtain ⟨hp1, hrun1, it1, hj7, he7, hg7⟩ := H7.out
    obtain ⟨hgc, row3, tr2, hcnt, tr1, x9, x10, x11⟩ := HCc.out
    have sy1 := hrun1.says hR tr1.so tr1.sa tr1.sb tr1.bo tr1.ba tr1.bb tr1.vo tr1.va tr1.vb
    have hf1 := sy1.few
    have bal8 : Below w7.heap.size w7 (w7.alloc (.cells #[.pointer p1] 27)) := (Below.refl _ w7).alloc (Nat.le_refl _) _
    obtain ⟨w8, hw8⟩ : ∃ w8, w8 = w7.alloc (.cells #[.pointer p1] 27) := ⟨_, rfl⟩
    have r14 : w8.heap[w7.heap.size]? = some (.cells #[.pointer p1] 27 (0, 0)) := by rw [hw8]; exact heap_alloc_new w7 _
    rw [← hw8] at bal8 ⊢
    have hBw7 : B ≤ w7.heap.size := Nat.le_trans hBc hg7.low.size
    have g8 : Goes B Tk wc w8 := hg7.trans (Goes.of bal8 hBw7)
    have tr2' := tr2.goes g8
    have hBw8 : B ≤ w8.heap.size := Nat.le_trans hBc g8.low.size
    obtain ⟨L1, hL1⟩ : ∃ L1 : Int, L1 = (ks1.length : Int) := ⟨_, rfl⟩
    have hI2 := IH.out (a2.n + b2'.n) (by omega) o2 a2 b2' w8 (ks ++ ks1) (x + 1 + ks1.length) (y + ks1.length) z (Nat.le_refl _) (by omega) (by omega) (by omega) (by omega) (by rw [List.length_append]; omega) tr2' HAP.out.2 HASK.out.2 (he7.below bal8) (hru.below hj7 bal8) hBw8
    rw [mv_ptr HPP.out.2.1, mv_ptr HPP.out.2.2.2.1, mv_ptr HPP.out.2.2.2.2.2] at hI2
    have e8 := he7.below bal8
    have cR : w8.cell? ⟨Rn, 0, none⟩ = some (.func (.func 223) #[] #[.pointer (some ⟨Tk, 0, none⟩), .pointer (some ⟨Rn, 0, none⟩), .pointer (some ⟨Ru, 0, none⟩)]) := (cell_of_row _ _ 0 _ 208 (0, 0) e8.run).trans rfl
    have k70 : keepTy 213 := by unfold keepTy; decide
    have k29 : keepTy 27 := by unfold keepTy; decide
    have d9 : w8.cell? ⟨B9, 1, none⟩ = some (.pointer po2) := (cell_of_row _ _ 1 _ 213 (0, 0) (g8.own _ _ _ _ x9 k70)).trans rfl
    have d10 : w8.cell? ⟨B10, 1, none⟩ = some (.pointer pa2) := (cell_of_row _ _ 1 _ 213 (0, 0) (g8.own _ _ _ _ x10 k70)).trans rfl
    have d11 : w8.cell? ⟨B11, 1, none⟩ = some (.pointer pb2) := (cell_of_row _ _ 1 _ 213 (0, 0) (g8.own _ _ _ _ x11 k70)).trans rfl
    have HC8 := hide (And.intro (hgc.trans g8) (And.intro (g8.own _ _ _ _ row3 k29) (And.intro (g8.own _ _ _ _ x9 k70) (And.intro (g8.own _ _ _ _ x10 k70) (And.intro (g8.own _ _ _ _ x11 k70) (And.intro r14 (And.intro (In.below bal8 it1) (And.intro sy1 (And.intro hp1 (And.intro (hrun1.mono hgc.low.size) (And.intro tr2' hcnt)))))))))))
    clear hp1 hrun1 it1 hj7 he7 hg7 hgc row3 tr2 hcnt tr1 x9 x10 x11 sy1 hf1 bal8 hw8 r14 hBw7 g8 tr2' e8 k70 k29 hI1 hL1
    go_upto_region 12 with (go_at_call 223; refine hI2.mono ?_; rintro e w9 ⟨t2', ks2, he, hrun2, it2, hj9, he9, hg9⟩; obtain ⟨p2, hp2⟩ := t2'.ptr_shape; rw [mv_ptr hp2] at he; subst he; have H9 := hide (And.intro hp2 (And.intro hrun2 (And.intro it2 (And.intro hj9 (And.intro he9 hg9))))); clear hp2 hrun2 it2 hj9 he9 hg9; dsimp only)
    obtain ⟨hp2, hrun2, it2, hj9, he9, hg9⟩ := H9.out
    obtain ⟨hg8, row3, x9, x10, x11, r14, it1, sy1, hp1, hrun1, tr2, hcnt⟩ := HC8.out
    have sy2 := hrun2.says hR tr2.so tr2.sa tr2.sb tr2.bo tr2.ba tr2.bb tr2.vo tr2.va tr2.vb
    have hf1 := sy1.few
    have hf2 := sy2.few
    have bal10 : Below w9.heap.size w9 (w9.alloc (.cells #[.pointer p2] 27)) := (Below.refl _ w9).alloc (Nat.le_refl _) _
    obtain ⟨w10, hw10⟩ : ∃ w10, w10 = w9.alloc (.cells #[.pointer p2] 27) := ⟨_, rfl⟩
    have r15 : w10.heap[w9.heap.size]? = some (.cells #[.pointer p2] 27 (0, 0)) := by rw [hw10]; exact heap_alloc_new w9 _
    rw [← hw10] at bal10 ⊢
    have hBw9 : B ≤ w9.heap.size := Nat.le_trans hBw8 hg9.low.size
    have g10 : Goes B Tk w8 w10 := hg9.trans (Goes.of bal10 hBw9)
    have e10 := he9.below bal10
    have j10 := hru.below hj9 bal10
    obtain ⟨X, hX⟩ : ∃ X : Int, X = x + 1 + ks1.length + ks2.length := ⟨_, rfl⟩
    obtain ⟨Y, hY⟩ : ∃ Y : Int, Y = y + ks1.length + ks2.length := ⟨_, rfl⟩
    rw [← hX, ← hY] at e10
    have k1 : w10.cell? ⟨Tk, 1, none⟩ = some (.int .i64 Y) := (cell_of_row _ _ 1 _ 136 (0, 0) e10.took).trans rfl
    have f1 : w10.frozen? ⟨Tk, 1, none⟩ = false := frozen_of_row _ _ 1 _ 136 e10.took
    have wy : IntKind.i64.wrap (Y + 1) = Y + 1 := by rw [IntKind.wrap_i64]; omega
    have g11 : Goes B Tk w10 (w10.setCell ⟨Tk, 1, none⟩ (.int .i64 (Y + 1))) := Goes.set _ e10.took hTk (by unfold keepTy; decide)
    obtain ⟨u11, o11'⟩ := set_one (i := 1) (.int .i64 (Y + 1)) e10.took
    have j11 : J (ks ++ ks1 ++ ks2) (w10.setCell ⟨Tk, 1, none⟩ (.int .i64 (Y + 1))) := hru.set j10 o11' hTk e10.took
    obtain ⟨w11, hw11⟩ : ∃ w11, w11 = w10.setCell ⟨Tk, 1, none⟩ (.int .i64 (Y + 1)) := ⟨_, rfl⟩
    rw [← hw11] at g11 u11 j11
    have HXY := hide (And.intro hX hY)
    have k70 : keepTy 213 := by unfold keepTy; decide
    have k29 : keepTy 27 := by unfold keepTy; decide
    have ga := g10.trans g11
    have he11 : REnv w11 Tk Rn Ru (.func (.func g) #[] caps) X (Y + 1) z := ⟨g11.own _ _ _ _ e10.run (by unfold keepTy; decide), g11.own _ _ _ _ e10.rule (by unfold keepTy; decide), by simpa using u11⟩
    have HD := hide (And.intro (hg8.trans ga) (And.intro (ga.own _ _ _ _ row3 k29) (And.intro (ga.own _ _ _ _ x9 k70) (And.intro (ga.own _ _ _ _ x10 k70) (And.intro (ga.own _ _ _ _ x11 k70) (And.intro (ga.own _ _ _ _ r14 k29) (And.intro (g11.own _ _ _ _ r15 k29) (And.intro (In.goes ga it1) (And.intro (In.goes g11 (In.below bal10 it2)) (And.intro sy1 (And.intro sy2 (And.intro hp1 (And.intro hp2 (And.intro hrun1 (And.intro (hrun2.mono hg8.low.size) (And.intro hcnt (And.intro he11 j11)))))))))))))))))
    clear hp2 hrun2 it2 hj9 he9 hg9 hg8 row3 x9 x10 x11 r14 it1 sy1 hp1 hrun1 tr2 hcnt sy2 hf1 hf2 bal10 hw10 r15 hBw9 g10 e10 j10 hX hY g11 u11 o11' j11 k70 k29 ga he11 hI2 d9 d10 d11 cR
    go_upto_region 13 with (fail)
    rw [← hw11]
    clear hw11 k1 f1 wy
    obtain ⟨hgD, row3, x9, x10, x11, r14, r15, it1, it2, sy1, sy2, hp1, hp2, hrun1, hrun2, hcnt, he11, j11⟩ := HD.out
    have cU : w11.cell? ⟨Ru, 0, none⟩ = some (.func (.func g) #[] caps) := (cell_of_row _ _ 0 _ 180 (0, 0) he11.rule).trans rfl
    have d92 : w11.cell? ⟨B9, 2, none⟩ = some (.string F1) := (cell_of_row _ _ 2 _ 213 (0, 0) x9).trans rfl
    have d93 : w11.cell? ⟨B9, 3, none⟩ = some (.bool F2) := (cell_of_row _ _ 3 _ 213 (0, 0) x9).trans rfl
    have d102 : w11.cell? ⟨B10, 2, none⟩ = some (.string G1) := (cell_of_row _ _ 2 _ 213 (0, 0) x10).trans rfl
    have d103 : w11.cell? ⟨B10, 3, none⟩ = some (.bool G2) := (cell_of_row _ _ 3 _ 213 (0, 0) x10).trans rfl
    have d112 : w11.cell? ⟨B11, 2, none⟩ = some (.string H1) := (cell_of_row _ _ 2 _ 213 (0, 0) x11).trans rfl
    have d113 : w11.cell? ⟨B11, 3, none⟩ = some (.bool H2) := (cell_of_row _ _ 3 _ 213 (0, 0) x11).trans rfl
    have hc := hru.call w11 (ks ++ ks1 ++ ks2) K (F1, F2) (G1, G2) (H1, H2) (Nat.le_trans hB hgD.low.size) (by have h := HTOP.out; obtain ⟨hF, hG, hH⟩ := HFGH.out; rw [hF, hG, hH]; exact h) (by have f1 := sy1.few; have f2 := sy2.few; rw [List.length_append, List.length_append]; omega) j11
    unfold pv at hc
    dsimp only at hc
    clear hgD row3 x9 x10 x11 r14 r15 it1 it2 sy1 sy2 hp1 hp2 hrun1 hrun2 hcnt he11 j11
    have heg := hru.enter
    go_upto_region 14 with (fail)
    try rw [heg]
    show Calls Tryz.prog g _ w11 _
    refine hc.mono ?_
    rintro e w12 ⟨⟨v, rfl, hv⟩, j12, g12, tk12⟩
    have HG12 := hide (And.intro j12 (And.intro g12 tk12))
    obtain ⟨rv, rb, hvr⟩ : ∃ v rb, R K (F1, F2) (G1, G2) (H1, H2) = (v, rb) := ⟨_, _, rfl⟩
    rw [hvr] at hv ⊢
    have HVR := hide (And.intro hvr hv)
    clear j12 g12 tk12 hc heg cU d92 d93 d102 d103 d112 d113 hvr hv
    dsimp only
    obtain ⟨hgD, row3, x9, x10, x11, r14, r15, it1, it2, sy1, sy2, hp1, hp2, hrun1, hrun2, hcnt, he11, j11⟩ := HD.out
    obtain ⟨j12, g12, tk12⟩ := HG12.out
    obtain ⟨n1, n2, n3, ht, _, _, hK, _, _, _⟩ := HZ.out
    obtain ⟨so, sa, sb, _⟩ := HSS.out
    have k29 : keepTy 27 := by unfold keepTy; decide
    have m : Mid R K o a b f gg hh t1 t2' ks1 ks2 := by rw [hK]; rw [hK] at so sa sb; exact Runs.mid n1 so sa sb ht.so ht.sa ht.sb sy1 sy2
    have row3' := g12.own _ _ _ _ row3 k29
    have r14' := g12.own _ _ _ _ r14 k29
    have r15' := g12.own _ _ _ _ r15 k29
    have c14 : w12.cell? ⟨w7.heap.size, 0, none⟩ = some (.pointer p1) := (cell_of_row _ _ 0 _ 27 (0, 0) r14').trans rfl
    have c15 : w12.cell? ⟨w9.heap.size, 0, none⟩ = some (.pointer p2) := (cell_of_row _ _ 0 _ 27 (0, 0) r15').trans rfl
    have e12 : REnv w12 Tk Rn Ru (.func (.func g) #[] caps) X (Y + 1) z := ⟨g12.own _ _ _ _ he11.run (by unfold keepTy; decide), g12.own _ _ _ _ he11.rule (by unfold keepTy; decide), tk12 _ _ he11.took⟩
    have hgE := hgD.trans g12
    have hm1 := m.tn
    have fin : ∀ (W : World) (t : T) (pt : Option Addr), Below w12.heap.size w12 W → t.ptr = .pointer pt → In W t → (W.setCell ⟨w.heap.size + 1 + 1 + 1, 0, none⟩ (.pointer pt)).heap[w.heap.size + 1 + 1 + 1]? = some (.cells #[.pointer pt] 27 (0, 0)) ∧ In (W.setCell ⟨w.heap.size + 1 + 1 + 1, 0, none⟩ (.pointer pt)) t ∧ J (ks ++ ks1 ++ ks2 ++ [K]) (W.setCell ⟨w.heap.size + 1 + 1 + 1, 0, none⟩ (.pointer pt)) ∧ REnv (W.setCell ⟨w.heap.size + 1 + 1 + 1, 0, none⟩ (.pointer pt)) Tk Rn Ru (.func (.func g) #[] caps) X (Y + 1) z ∧ Goes B Tk w (W.setCell ⟨w.heap.size + 1 + 1 + 1, 0, none⟩ (.pointer pt)) ∧ W.cell? ⟨w.heap.size + 1 + 1 + 1, 0, none⟩ = some (.pointer none) ∧ W.frozen? ⟨w.heap.size + 1 + 1 + 1, 0, none⟩ = false := fun W t pt hW hpt it => by
      have rw3 := (hW.block _ (gI row3').1).trans row3'
      obtain ⟨u1, u2⟩ := set_one (i := 0) (.pointer pt) rw3
      have hgW := hgE.trans (Goes.of hW (Nat.le_trans hB hgE.low.size))
      exact ⟨by simpa using u1, In.aside rw3 u2 it, hru.box (hru.below j12 hW) rw3 u2 (by omega), (e12.below hW).box rw3 u2, hgW.later u2 (by omega) (by omega) (Nat.le_trans hB hgW.low.size), (cell_of_row _ _ 0 _ 27 (0, 0) rw3).trans rfl, frozen_of_row _ _ 0 _ 27 rw3⟩
    have cJ : Calls Tryz.prog 226 #[.agg #[.pointer p1], .string K, .string v, .agg #[.pointer p2]] w12 fun e w' => ∃ t pt, e = .returned (.agg #[.pointer pt]) ∧ t.ptr = .pointer pt ∧ Joined w.heap.size K v t1 t2' t ∧ In w' t ∧ Below w12.heap.size w12 w' := by
      have := joined_any t1 t2' K v w12 (In.goes g12 it1) (In.goes g12 it2) ((fits_is m.s1 m.s2).2 ⟨m.less, m.more⟩) (by omega)
      rw [mv_ptr hp1, mv_ptr hp2] at this
      refine this.mono ?_
      rintro e w' ⟨t, he, hjj, it, hbl⟩
      obtain ⟨pt, hpt⟩ := t.ptr_shape
      exact ⟨t, pt, by rw [he, mv_ptr hpt], hpt, hjj.mono hgE.low.size, it, hbl⟩
    have cC : Calls Tryz.prog 227 #[.agg #[.pointer p1], .agg #[.pointer p2]] w12 fun e w' => ∃ t pt, e = .returned (.agg #[.pointer pt]) ∧ t.ptr = .pointer pt ∧ Closes w.heap.size t1 t2' t ∧ (t1.bal → t2'.bal → t.bal) ∧ In w' t ∧ Below w12.heap.size w12 w' := by
      have := closed_any t1 t2' w12 (In.goes g12 it1) (In.goes g12 it2) (List.pairwise_append.2 ⟨m.s1, m.s2, fun x' hx' y' hy' => ord_B.trans _ _ _ (m.less x' hx') (m.more y' hy')⟩) (by omega)
      rw [mv_ptr hp1, mv_ptr hp2] at this
      refine this.mono ?_
      rintro e w' ⟨t, he, hcc, hbb, it, hbl⟩
      obtain ⟨pt, hpt⟩ := t.ptr_shape
      exact ⟨t, pt, by rw [he, mv_ptr hpt], hpt, hcc.mono hgE.low.size, hbb, it, hbl⟩
    have HFIN := hide fin
    have HRR := hide (And.intro hrun1 hrun2)
    clear hgD row3 x9 x10 x11 r14 r15 it1 it2 sy1 sy2 hp1 hp2 hrun1 hrun2 hcnt he11 j11 j12 g12 tk12 n1 n2 n3 ht hK so sa sb k29 m row3' r14' r15' e12 hgE hm1 fin
    have wrap : ∀ (t : T) (W : World) (pt : Option Addr), RunsA w.heap.size R o a b t (ks1 ++ ks2 ++ [K]) → t.ptr = .pointer pt → In W t → J (ks ++ ks1 ++ ks2 ++ [K]) W → REnv W Tk Rn Ru (.func (.func g) #[] caps) X (Y + 1) z → Goes B Tk w W → ∃ t' ks', Ending.returned (.agg #[.pointer pt]) = Ending.returned (mv t') ∧ RunsA w.heap.size R o a b t' ks' ∧ In W t' ∧ J (ks ++ ks') W ∧ REnv W Tk Rn Ru (.func (.func g) #[] caps) (x + ks'.length) (y + ks'.length) z ∧ Goes B Tk w W := fun t W pt h1 h2 h3 h4 h5 h6 => by
      refine ⟨t, ks1 ++ ks2 ++ [K], by rw [mv_ptr h2], h1, h3, by rw [← List.append_assoc, ← List.append_assoc]; exact h4, ?_, h6⟩
      have e1 : x + ((ks1 ++ ks2 ++ [K]).length : Nat) = X := by rw [HXY.out.1]; simp; omega
      have e2 : y + ((ks1 ++ ks2 ++ [K]).length : Nat) = Y + 1 := by rw [HXY.out.2]; simp; omega
      rw [e1, e2]
      exact h5
    have HW := hide wrap
    clear wrap
    cases rb with
    | true =>
      clear cC
      go_upto_region 15 with (fail)
      go_wp2_with (go_at_call 226; refine cJ.mono ?_; rintro e w13 ⟨t, pt, rfl, hpt, hjj, it, b13⟩; obtain ⟨y1, y2, y3, y4, y5, y6, y7⟩ := HFIN.out w13 t pt b13 hpt it; have HY := hide (And.intro y1 (And.intro y2 (And.intro y3 (And.intro y4 (And.intro y5 (And.intro hpt hjj)))))); clear y1 y2 y3 y4 y5 hpt hjj it b13; dsimp only)
      refine ret_row (w.heap.size + 1 + 1 + 1) [.pointer pt] rfl rfl Tryz.underlying27 rfl Tryz.info27 HY.out.1 rfl ?_
      obtain ⟨y1, y2, y3, y4, y5, hpt, hjj⟩ := HY.out
      obtain ⟨n1, n2, n3, ht, _, _, hK, _, _, _⟩ := HZ.out
      obtain ⟨so, sa, sb, _⟩ := HSS.out
      obtain ⟨hF, hG, hH⟩ := HFGH.out
      suffices hx : RunsA w.heap.size R o a b t (ks1 ++ ks2 ++ [K]) by
        have hfin := HW.out t _ pt hx hpt y2 y3 y4 y5
        first
          | exact hfin
          | (obtain ⟨t9, ks9, u1, u2⟩ := hfin; exact ⟨t9, u1, ks9, u2⟩)
      obtain ⟨hvr, hv⟩ := HVR.out
      rw [← hv (by first | rfl | trivial)] at hvr
      rw [hF, hG, hH] at hvr
      rw [hK] at so sa sb hjj hvr ⊢
      exact .joins n1 n2 n3 so sa sb HRR.out.1 HRR.out.2 hvr hjj
    | false =>
      clear cJ
      go_upto_region 16 with (fail)
      go_wp2_with (go_at_call 227; refine cC.mono ?_; rintro e w13 ⟨t, pt, rfl, hpt, hjj, hbb, it, b13⟩; obtain ⟨y1, y2, y3, y4, y5, y6, y7⟩ := HFIN.out w13 t pt b13 hpt it; have HY := hide (And.intro y1 (And.intro y2 (And.intro y3 (And.intro y4 (And.intro y5 (And.intro hpt (And.intro hjj hbb))))))); clear y1 y2 y3 y4 y5 hpt hjj hbb it b13; dsimp only)
      refine ret_row (w.heap.size + 1 + 1 + 1) [.pointer pt] rfl rfl Tryz.underlying27 rfl Tryz.info27 HY.out.1 rfl ?_
      obtain ⟨y1, y2, y3, y4, y5, hpt, hjj, hbb⟩ := HY.out
      obtain ⟨n1, n2, n3, ht, _, _, hK, _, _, _⟩ := HZ.out
      obtain ⟨so, sa, sb, _⟩ := HSS.out
      obtain ⟨hF, hG, hH⟩ := HFGH.out
      suffices hx : RunsA w.heap.size R o a b t (ks1 ++ ks2 ++ [K]) by
        have hfin := HW.out t _ pt hx hpt y2 y3 y4 y5
        first
          | exact hfin
          | (obtain ⟨t9, ks9, u1, u2⟩ := hfin; exact ⟨t9, u1, ks9, u2⟩)
      obtain ⟨hvr, -⟩ := HVR.out
      rw [hF, hG, hH] at hvr
      rw [hK] at so sa sb hvr ⊢
      exact .closes n1 n2 n3 so sa sb HRR.out.1 HRR.out.2 hvr hjj hbb
end Go.Proofs.YtkkpdgfllnbigaaGreat.Pm
