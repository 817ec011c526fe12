/-
  tagset: Remove (38).
  STAMPS IN ROWS: read ('Rv'), owned ('Ov').
-/
import Derived.Test.YtkkpdgfllnbigaaGreatDoorMg19
import Derived.Test.YtkkpdgfllnbigaaGreatDoorMg17
namespace Go.Proofs.YtkkpdgfllnbigaaGreatDoor.Tg
open Go.RowKit Go.Shelf
set_option linter.unusedSimpArgs false
set_option linter.unusedVariables false
attribute [local go_sem] Oper.semAt_some

/-- What stands between rounds. -/
structure RmI (wA : World) (Lb Nb : Nat) (t : Pm.T) (l FL : List Kv) (B k : Nat) (W : World) : Prop where
  only : Only (fun j => (j = Lb ∨ j = Nb) ∨ B ≤ j) wA W
  num : W.heap[Nb]? = some (.cells #[.int .i64 (k : Nat)] 3 (0, 0))
  le : k ≤ FL.length
  tree : ∃ tc pc, tc.ptr = .pointer pc ∧ W.heap[Lb]? = some (.cells #[.pointer pc] 43 (0, 0)) ∧ Mg W tc ∧ tc.list = remC FL k l ∧ (k = 0 → tc = t) ∧ ∀ j, tc.blk j → (j < wA.heap.size ∧ j ≠ Lb ∧ j ≠ Nb) ∨ B ≤ j
theorem Mg.over' {D : Nat → Prop} {w w' : World} {t : Pm.T} (h : Mg w t) (ho : Only D w w') (hD : ∀ j, D j → ¬ t.blk j) : Mg w' t := ⟨Pm.In.over h.inn ho hD, h.srt, h.bal, h.few, h.key⟩
theorem RmI.own {wA : World} {Lb Nb : Nat} {t : Pm.T} {l FL : List Kv} {B k : Nat} {W W' : World} (h : RmI wA Lb Nb t l FL B k W) (hz : Lb < wA.heap.size ∧ Nb < wA.heap.size) (hB : wA.heap.size + 2 ≤ B) (ho : Only (fun j => wA.heap.size + 1 ≤ j ∧ j < B) W W') : RmI wA Lb Nb t l FL B k W' := by
  obtain ⟨tc, pc, h1, h2, h3, h4, h5, h6⟩ := h.tree
  refine ⟨h.only.trans ho (fun j hj e => by have e' : wA.heap.size + 1 ≤ j ∧ j < B := e; omega), (ho.block _ (gI h.num).1 (fun e => by have e' : wA.heap.size + 1 ≤ Nb ∧ Nb < B := e; omega)).trans h.num, h.le, tc, pc, h1, (ho.block _ (gI h2).1 (fun e => by have e' : wA.heap.size + 1 ≤ Lb ∧ Lb < B := e; omega)).trans h2, Mg.over' h3 ho (fun j e hj => ?_), h4, h5, h6⟩
  have e' : wA.heap.size + 1 ≤ j ∧ j < B := e
  have := h6 j hj
  omega
/-- May one take a text away? -/
def tokR (l : List Kv) (X : ByteArray) : Bool := txtB X && mayT l
def remL (l : List Kv) (X : ByteArray) : List Kv := if tokR l X = true then l.filter fun x => !decide (x.2 = X) else []
def remN (l : List Kv) (X : ByteArray) : Nat := if tokR l X = true then (l.filter fun x => decide (x.2 = X)).length else 0
def RemE (w : World) (t : Pm.T) (X : ByteArray) (e : Ending) (w' : World) : Prop := ∃ t' pt, t'.ptr = .pointer pt ∧ e = .returned (.tuple #[.agg #[.pointer pt], .int .i64 (remN t.list X : Nat), .int .i64 (if tokR t.list X = true then 0 else 2)]) ∧ Mg w' t' ∧ t'.list = remL t.list X ∧ (tokR t.list X = true → remN t.list X = 0 → t' = t) ∧ Below w.heap.size w w'
theorem leave_row_tmp2 {fn : Func} {tmps : Array Value} {p q r : Tmp} {ty : TypeId} (b : Nat) (cs : List Value) {R : Ending → World → Prop} {w : World} (h : fn.results = #[.cell p ty, .tmp q, .tmp r]) (hp : tmps.getD p undef = .pointer (some ⟨b, 0, none⟩)) {v u : Value} (hq : tmps.getD q undef = v) (hr : tmps.getD r undef = u)
    {d : TypeDesc} (hu : Tryz.prog.underlying ty = some d) (hd : d.isRow = true) (hi : (Tryz.prog.info? ty).map (·.size) = some cs.length) {t : TypeId} {fr : Nat × Nat} (hc : w.heap[b]? = some (.cells cs.toArray t fr))
    (hR : R (.returned (.tuple #[.agg cs.toArray, v, u])) w) : LeavesInM Fence.wide 6 Tryz.prog fn tmps R [] .returning w := by
  refine leave_none (v := .tuple #[.agg cs.toArray, v, u]) ?_ hR
  have := run_loadVar_mid (P := Tryz.prog) w b 0 ty cs _ (fun j v hv => by rw [cell_of_row w b (0 + j) cs.toArray t fr hc, Nat.zero_add]; simpa using hv) hu hd hi
  have hp' : tmps[p]?.getD undef = .pointer (some ⟨b, 0, none⟩) := by simpa using hp
  have hq' : tmps[q]?.getD undef = v := by simpa using hq
  have hr' : tmps[r]?.getD undef = u := by simpa using hr
  simp [results, h, hp', hq', hr', asAddr, Sem.run_bind, Result.andThen, this]
set_option maxHeartbeats 8000000 in
set_option maxRecDepth 100000 in
theorem remove32 {w : World} {t : Pm.T} {pm : Option Addr} (X : ByteArray) (h : Mg w t) (hp : t.ptr = .pointer pm) : Calls Tryz.prog 15 #[.agg #[.pointer pm], .string X] w (RemE w t X) := by
  obtain ⟨w0, hw0⟩ : ∃ q, q = (w.alloc (.cells #[.pointer pm] 43)).alloc (.cells #[.pointer none] 43) := ⟨_, rfl⟩
  obtain ⟨m0, m1⟩ := new2 w (.cells #[.pointer pm] 43) (.cells #[.pointer none] 43)
  have b0 : Below w.heap.size w w0 := by rw [hw0]; exact ((Below.refl _ w).alloc (Nat.le_refl _) _).alloc (by simp) _
  have s0 : w0.heap.size = w.heap.size + 2 := by rw [hw0]; simp
  rw [← hw0] at m0 m1
  obtain ⟨Mb, hMb⟩ : ∃ q, q = w.heap.size := ⟨_, rfl⟩
  obtain ⟨Rb, hRb⟩ : ∃ q, q = w.heap.size + 1 := ⟨_, rfl⟩
  rw [← hMb] at m0
  rw [← hRb] at m1
  have HW := hide (And.intro hw0 (And.intro hRb (And.intro hMb s0)))
  have HC : Hid (∀ W, Below w0.heap.size w0 W → W.cell? ⟨Mb, 0, none⟩ = some (.pointer pm) ∧ Mg W t ∧ W.heap[Rb]? = some (.cells #[.pointer none] 43 (0, 0)) ∧ Below w.heap.size w W) := hide (fun W hW => ⟨cell_stays ((cell_of_row _ _ 0 _ 43 (0, 0) m0).trans rfl) hW, h.below (b0.trans (hW.mono b0.size)), (hW.block _ (gI m1).1).trans m1, b0.trans (hW.mono b0.size)⟩)
  have htx := fun W => mayText129 X W
  have hmay := fun W (hW : Mg W t) => may28 hW hp
  obtain ⟨EC, hEC⟩ : ∃ q : Int, q = (if tokR t.list X = true then 0 else 2) := ⟨_, rfl⟩
  have HE0 : Hid (∀ W t' pt (n : Nat), n = remN t.list X → t'.ptr = .pointer pt → Mg W t' → t'.list = remL t.list X → (tokR t.list X = true → n = 0 → t' = t) → Below w.heap.size w W → RemE w t X (.returned (.tuple #[.agg #[.pointer pt], .int .i64 (n : Nat), .int .i64 EC])) W) := hide (fun W t' pt n h0 h1 h2 h3 h5 h4 => ⟨t', pt, h1, by rw [hEC, h0], h2, h3, by rw [← h0]; exact h5, h4⟩)
  have HF := hide (And.intro h (And.intro hp hEC))
  generalize RemE w t X = PE at HE0 ⊢
  obtain ⟨c0, -, -, -⟩ := HC.out w0 (Below.refl _ _)
  have bad : tokR t.list X = false → Hid (EC = 2 ∧ ∀ W, Below w0.heap.size w0 W → W.cell? ⟨Rb, 0, none⟩ = some (.pointer none) ∧ W.frozen? ⟨Rb, 0, none⟩ = false ∧ Hid ((W.setCell ⟨Rb, 0, none⟩ (.pointer none)).heap[Rb]? = some (.cells #[.pointer none] 43 (0, 0)) ∧ PE (.returned (.tuple #[.agg #[.pointer none], .int .i64 0, .int .i64 EC])) (W.setCell ⟨Rb, 0, none⟩ (.pointer none)))) := fun hn => hide ⟨by rw [hEC, hn]; rfl, fun W hW => by
    obtain ⟨-, -, q2, q3⟩ := HC.out W hW
    obtain ⟨u, o⟩ := set_one (i := 0) (.pointer none) q2
    refine ⟨(cell_of_row _ _ 0 _ 43 (0, 0) q2).trans rfl, frozen_of_row _ _ 0 _ 43 q2, hide ⟨by simpa using u, ?_⟩⟩
    exact HE0.out _ .nil none 0 (by unfold remN; rw [hn]; rfl) rfl (Mg.nil _) (by unfold remL; rw [hn]; rfl) (fun h => by rw [hn] at h; cases h) (Below.only q3 o q3.size (fun j e => by have e' : j = Rb := e; omega))⟩
  clear h hp m0 m1 b0 s0 hw0 hMb hRb hEC
  cases hX : txtB X with
  | false =>
    rw [hX] at htx
    have HB := bad (by unfold tokR; rw [hX]; rfl)
    clear bad hmay hX
    refine calls_marks Tryz.func15 rfl ?_
    simp only [Tryz.ntmps15, List.size_toArray, List.length_cons, List.length_nil, Nat.reduceAdd, Nat.reduceSub, Array.replicate_succ, Array.replicate_zero, List.push_toArray, List.append_toArray, List.nil_append, List.cons_append]
    go_upto_region 1 with fail
    rw [← HW.out.1, ← HW.out.2.1, ← HW.out.2.2.1]
    go_upto_region 2 with (go_at_call 21; refine (htx _).mono ?_; rintro e w1 ⟨rfl, hw⟩; replace hw := hw.symm; subst hw; dsimp only)
    obtain ⟨e1, e2, HE⟩ := HB.out.2 w0 (Below.refl _ _)
    go_wp2
    refine ret_lv ?_
    dsimp only
    refine leave_row_tmp2 Rb [.pointer none] rfl rfl rfl rfl Tryz.underlying43 rfl T27' HE.out.1 ?_
    have := HE.out.2
    rw [HB.out.1] at this
    exact this
  | true =>
    rw [hX] at htx
    cases hm : mayT t.list with
    | false =>
      rw [hm] at hmay
      have HB := bad (by unfold tokR; rw [hX, hm]; rfl)
      have hm0 := hmay w0 (HC.out w0 (Below.refl _ _)).2.1
      clear bad hX hm hmay
      refine calls_marks Tryz.func15 rfl ?_
      simp only [Tryz.ntmps15, List.size_toArray, List.length_cons, List.length_nil, Nat.reduceAdd, Nat.reduceSub, Array.replicate_succ, Array.replicate_zero, List.push_toArray, List.append_toArray, List.nil_append, List.cons_append]
      go_upto_region 1 with fail
      rw [← HW.out.1, ← HW.out.2.1, ← HW.out.2.2.1]
      go_upto_region 2 with (first
        | (go_at_call 21; refine (htx _).mono ?_; rintro e w1 ⟨rfl, hw⟩; replace hw := hw.symm; subst hw; dsimp only)
        | (go_at_call 30; refine hm0.mono ?_; rintro e w2 ⟨rfl, b2⟩; have H2 := hide b2; clear b2; dsimp only))
      obtain ⟨e1, e2, HE⟩ := HB.out.2 w2 H2.out
      go_wp2
      refine ret_lv ?_
      dsimp only
      refine leave_row_tmp2 Rb [.pointer none] rfl rfl rfl rfl Tryz.underlying43 rfl T27' HE.out.1 ?_
      have := HE.out.2
      rw [HB.out.1] at this
      exact this
    | true =>
      rw [hm] at hmay
      have hm0 := hmay w0 (HC.out w0 (Below.refl _ _)).2.1
      have hE2 : EC = 0 := by rw [HF.out.2.2]; unfold tokR; rw [hX, hm]; rfl
      subst hE2
      have HO := hide (And.intro hX hm)
      have hfo := fun W => found130 (pm := pm) X W
      clear bad hX hm hmay
      refine calls_marks Tryz.func15 rfl ?_
      simp only [Tryz.ntmps15, List.size_toArray, List.length_cons, List.length_nil, Nat.reduceAdd, Nat.reduceSub, Array.replicate_succ, Array.replicate_zero, List.push_toArray, List.append_toArray, List.nil_append, List.cons_append]
      go_upto_region 1 with fail
      rw [← HW.out.1, ← HW.out.2.1, ← HW.out.2.2.1]
      go_upto_region 3 with (first
        | (go_at_call 21; refine (htx _).mono ?_; rintro e w1 ⟨rfl, hw⟩; replace hw := hw.symm; subst hw; dsimp only)
        | (go_at_call 30; refine hm0.mono ?_; rintro e w2 ⟨rfl, b2⟩; have H2 := hide b2; clear b2; dsimp only))
      clear hm0 c0
      obtain ⟨c2, -, -, -⟩ := HC.out w2 H2.out
      go_upto_region 4 with fail
      obtain ⟨w3, hw3⟩ : ∃ q, q = (w2.alloc (.cells #[.pointer pm] 43)).alloc (.cells #[.int .i64 0] 3) := ⟨_, rfl⟩
      obtain ⟨n0, n1⟩ := new2 w2 (.cells #[.pointer pm] 43) (.cells #[.int .i64 0] 3)
      have b3 : Below w2.heap.size w2 w3 := by rw [hw3]; exact ((Below.refl _ w2).alloc (Nat.le_refl _) _).alloc (by simp) _
      have s3 : w3.heap.size = w2.heap.size + 2 := by rw [hw3]; simp
      rw [← hw3] at n0 n1
      obtain ⟨Lb, hLb⟩ : ∃ q, q = w2.heap.size := ⟨_, rfl⟩
      obtain ⟨Nb, hNb⟩ : ∃ q, q = w2.heap.size + 1 := ⟨_, rfl⟩
      rw [← hw3, ← hNb, ← hLb]
      rw [← hLb] at n0
      rw [← hNb] at n1
      have c3 := cell_stays c2 b3
      have b03 : Below w0.heap.size w0 w3 := H2.out.trans (b3.mono H2.out.size)
      obtain ⟨-, mg3, r3, bw3⟩ := HC.out w3 b03
      obtain ⟨wA, hwA⟩ : ∃ q, q = (w3.alloc (.cells #[.pointer pm] 43)).alloc (.cells #[.string X] 9) := ⟨_, rfl⟩
      obtain ⟨k0, k1⟩ := new2 w3 (.cells #[.pointer pm] 43) (.cells #[.string X] 9)
      have bA : Below w3.heap.size w3 wA := by rw [hwA]; exact ((Below.refl _ w3).alloc (Nat.le_refl _) _).alloc (by simp) _
      have sA : wA.heap.size = w3.heap.size + 2 := by rw [hwA]; simp
      have hfo3 := hfo w3
      rw [← hwA] at k0 k1 hfo3
      have hs2 := H2.out.size
      have hs0 := HW.out.2.2.2
      have mgA := mg3.below bA
      have cLm : wA.cell? ⟨w3.heap.size, 0, none⟩ = some t.ptr := by rw [HF.out.2.1]; exact (cell_of_row _ _ 0 _ 43 (0, 0) k0).trans rfl
      have cLx : wA.cell? ⟨w3.heap.size + 1, 0, none⟩ = some (.string X) := (cell_of_row _ _ 0 _ 9 (0, 0) k1).trans rfl
      have hit := iterFound X HO.out.1 t w3.heap.size (w3.heap.size + 1) wA mgA.inn mgA.srt mgA.key cLm cLx
      obtain ⟨FL, hFL⟩ : ∃ q, q = foundL X t.list := ⟨_, rfl⟩
      rw [← hFL] at hit
      have hfl : FL.length ≤ 400 := by
        rw [hFL, found_is HO.out.2 HF.out.1.srt]
        exact Nat.le_trans (List.length_filter_le _ _) (by rw [Pm.T.n_eq]; exact HF.out.1.few)
      have hKlt : ∀ j, KB t w3.heap.size (w3.heap.size + 1) j → j < wA.heap.size ∧ j ≠ Lb ∧ j ≠ Nb := fun j hj => by
        have h1 := HW.out
        rcases hj with rfl | rfl | hj
        · omega
        · omega
        · have := HF.out.1.inn.blk_lt hj; omega
      have h0 : ∀ B W, Below wA.heap.size wA W → W.heap.size ≤ B → RmI wA Lb Nb t t.list FL B 0 W := fun B W hb hB => by
        have b3W := bA.trans (hb.mono bA.size)
        refine ⟨below_only hb, (b3W.block _ (gI n1).1).trans n1, Nat.zero_le _, t, pm, HF.out.2.1, (b3W.block _ (gI n0).1).trans n0, mgA.below hb, (remC_zero _ _).symm, fun _ => rfl, fun j hj => .inl ?_⟩
        have h1 := HW.out
        have := HF.out.1.inn.blk_lt hj
        omega
      have HZ := hide (And.intro (show wA.heap.size = w2.heap.size + 4 ∧ Lb = w2.heap.size ∧ Nb = w2.heap.size + 1 ∧ w.heap.size + 2 ≤ w2.heap.size ∧ Rb = w.heap.size + 1 by have h1 := HW.out; omega) (And.intro hFL (And.intro hfl (And.intro (bw3.trans (bA.mono bw3.size)) ((bA.block _ (gI r3).1).trans r3)))))
      clear hw3 n0 n1 b3 s3 hLb hNb c2 b03 mg3 r3 bw3 hwA k0 k1 bA sA hfo hs2 hs0 mgA cLm cLx hFL hfl htx H2
      go_wp2_with (go_at_call 33; refine hfo3.mono ?_; rintro e w' ⟨rfl, hw'⟩; obtain rfl : wA = w' := hw'.symm; clear hw'; dsimp only)
      clear hfo3 c3
      refine range_ib (Q := _) 53 enters53 _ FL (encF X) _ hit rfl (fun _ _ => rfl) (fun j hj => (hKlt j hj).1) (fun j => j = Lb ∨ j = Nb) (fun j e hj => by have := hKlt j hj; omega) (fun j e => by have := HZ.out.1; omega)
        (fun B k W => RmI wA Lb Nb t t.list FL B k W) (fun _ _ _ => False)
        (fun B k W W' hB hi ho => hi.own (by have := HZ.out.1; omega) hB ho) (fun B c W W' hB hi ho => hi) h0 ?hround ?hdone (fun B c W hB hi => hi.elim)
      case hdone =>
        rintro B W hB hi hlt hk0
        obtain ⟨tc, pc, hpc, hL, mgc, hlc, h0c, hbk⟩ := hi.tree
        obtain ⟨z1, z2, z3, z4, z5⟩ := HZ.out
        have bW : Below w.heap.size w W := Below.only z4 hi.only z4.size (fun j e => by omega)
        have rW := (hi.only.block Rb (gI z5).1 (fun e => by omega)).trans z5
        have bwd : Below w.heap.size w W.drew := bW.trans ((drew_below W).mono bW.size)
        have rd : W.drew.heap[Rb]? = some (.cells #[.pointer none] 43 (0, 0)) := rW
        have kd : W.drew.heap[wA.heap.size]? = some (.deferred (some [])) := hk0
        have ld : W.drew.heap[Lb]? = some (.cells #[.pointer pc] 43 (0, 0)) := hL
        have nd : W.drew.heap[Nb]? = some (.cells #[.int .i64 (FL.length : Nat)] 3 (0, 0)) := hi.num
        have mgd := mgc.below (drew_below W)
        have cl : W.drew.cell? ⟨Lb, 0, none⟩ = some (.pointer pc) := (cell_of_row _ _ 0 _ 43 (0, 0) ld).trans rfl
        have cn : W.drew.cell? ⟨Nb, 0, none⟩ = some (.int .i64 (FL.length : Nat)) := (cell_of_row _ _ 0 _ 3 (0, 0) nd).trans rfl
        have hN : FL.length = remN t.list X := by rw [z2, found_is HO.out.2 HF.out.1.srt]; unfold remN tokR; rw [HO.out.1, HO.out.2]; rfl
        have hLL : tc.list = remL t.list X := by rw [hlc, z2, remC_all HO.out.2 HF.out.1.srt]; unfold remL tokR; rw [HO.out.1, HO.out.2]; rfl
        have nb : ¬ tc.blk wA.heap.size := fun hj => by have := hbk _ hj; omega
        have HH := hide (And.intro hpc (And.intro hN (And.intro hLL (And.intro h0c nb))))
        have zz : Rb ≠ Lb ∧ Rb ≠ Nb ∧ wA.heap.size ≠ Rb ∧ w.heap.size ≤ Rb ∧ w.heap.size ≤ wA.heap.size := by omega
        obtain ⟨NN, hNN⟩ : ∃ q, q = FL.length := ⟨_, rfl⟩
        rw [← hNN] at cn
        have HNN := hide hNN
        clear hit hKlt h0 hi hL mgc hlc h0c hbk nb z1 z2 z3 z4 z5 bW rW hk0 ld nd hpc hN hLL hNN hlt
        go_upto_region 8 with fail
        refine wp_region_held_drew (S := fun w' => w'.cell? ⟨Lb, 0, none⟩ = some (.pointer pc) ∧ w'.cell? ⟨Nb, 0, none⟩ = some (.int .i64 (NN : Nat))) (by kernel_rfl) (by exact ⟨cl, cn⟩) (fun hHeld => ?_)
        try dsimp only at hHeld
        generalize W.drew = Wd at hHeld bwd rd kd mgd cl cn ⊢
        refine take_op (i := 0) (d := 30) (OP := Op.load 43 (Operand.tmp 7)) (T := 43) (v := ?vzq1) rfl rfl rfl rfl (by kernel_rfl) (by kernel_rfl) (by kernel_rfl) (fun _ _ _ h => h) (by rfl) ?hzq1 hHeld ?rzq1
        case hzq1 => (intro w' hSw; (try dsimp only at hSw); go_simp <;> with_reducible rfl)
        try simp only [Act.put, sI, sZ, sS]
        refine take_op (i := 1) (d := 31) (OP := Op.load 3 (Operand.tmp 8)) (T := 3) (v := ?vzq2) rfl rfl rfl rfl (by kernel_rfl) (by kernel_rfl) (by kernel_rfl) (fun _ _ _ h => h) (by rfl) ?hzq2 hHeld ?rzq2
        case hzq2 => (intro w' hSw; (try dsimp only at hSw); go_simp <;> with_reducible rfl)
        try simp only [Act.put, sI, sZ, sS]
        obtain ⟨u9, o9⟩ := set_one (i := 0) (.pointer pc) rd
        have hM : (Wd.setCell ⟨Rb, 0, none⟩ (.pointer pc)).cell? ⟨Lb, 0, none⟩ = some (.pointer pc) ∧ (Wd.setCell ⟨Rb, 0, none⟩ (.pointer pc)).cell? ⟨Nb, 0, none⟩ = some (.int .i64 (NN : Nat)) := ⟨o9.cell cl (fun e => zz.1 e.symm), o9.cell cn (fun e => zz.2.1 e.symm)⟩
        refine skip_op (i := 2) (OP := Op.store 43 (Operand.tmp 4) (Operand.tmp 30)) (T := 0) (w' := Wd.setCell ⟨Rb, 0, none⟩ (.pointer pc)) rfl rfl rfl rfl (by kernel_rfl) (by rfl) (exec_st27 rfl rfl ((cell_of_row _ _ 0 _ 43 (0, 0) rd).trans rfl) (frozen_of_row _ _ 0 _ 43 rd)) ⟨hM, ?_⟩
        try simp only [Act.put, sI, sZ, sS]
        refine take_op (i := 3) (d := 5) (OP := Op.assign (Operand.tmp 31)) (T := 3) (v := ?vzq3) rfl rfl rfl rfl (by kernel_rfl) (by kernel_rfl) (by kernel_rfl) (fun _ _ _ h => h) (by rfl) ?hzq3 hM ?rzq3
        case hzq3 => (intro w' hSw; (try dsimp only at hSw); go_simp <;> with_reducible rfl)
        try simp only [Act.put, sI, sZ, sS]
        refine take_op (i := 4) (d := 6) (OP := Op.assign (Operand.const (Value.int IntKind.i64 0))) (T := 29) (v := ?vzq4) rfl rfl rfl rfl (by kernel_rfl) (by kernel_rfl) (by kernel_rfl) (fun _ _ _ h => h) (by rfl) ?hzq4 hM ?rzq4
        case hzq4 => (intro w' hSw; (try dsimp only at hSw); go_simp <;> with_reducible rfl)
        try simp only [Act.put, sI, sZ, sS]
        refine wpAnyH_done (by kernel_rfl) ?_ _
        have k9 := (o9.block _ (gI kd).1 (fun e => zz.2.2.1 e)).trans kd
        have b9 : Below w.heap.size w (Wd.setCell ⟨Rb, 0, none⟩ (.pointer pc)) := Below.only bwd o9 bwd.size (fun j e => by have e' : j = Rb := e; have := zz.2.2.2.1; omega)
        have m9 := mgd.aside rd o9
        have HE : Hid ((Wd.setCell ⟨Rb, 0, none⟩ (.pointer pc)).heap[wA.heap.size]? = some (.deferred (some [])) ∧ (Wd.setCell ⟨Rb, 0, none⟩ (.pointer pc)).heap[Rb]? = some (.cells #[.pointer pc] 43 (0, 0)) ∧ Below w.heap.size w (Wd.setCell ⟨Rb, 0, none⟩ (.pointer pc)) ∧ Mg (Wd.setCell ⟨Rb, 0, none⟩ (.pointer pc)) tc) := hide ⟨k9, by simpa using u9, b9, m9⟩
        have HZZ := hide zz
        clear u9 o9 hM k9 b9 m9 bwd rd kd mgd cl cn hHeld zz
        go_wp2
        refine ret_lv ?_
        dsimp only
        obtain ⟨hk9, hr9, hb9, hm9⟩ := HE.out
        obtain ⟨q1, q2, q3, q4, q5⟩ := HZZ.out
        have o10 := only_putObj (Wd.setCell ⟨Rb, 0, none⟩ (.pointer pc)) wA.heap.size (.deferred none)
        have r10 := (o10.block Rb (gI hr9).1 (fun e => q3 e.symm)).trans hr9
        have b10 := Below.only hb9 o10 hb9.size (fun j e => by have e' : j = wA.heap.size := e; omega)
        refine leave_mark hk9 (leave_row_tmp2 Rb [.pointer pc] rfl rfl rfl rfl Tryz.underlying43 rfl T27' r10 ?_)
        refine HE0.out _ tc pc NN (HNN.out.trans HH.out.2.1) HH.out.1 ?_ HH.out.2.2.1 (fun _ hn => HH.out.2.2.2.1 (by rw [← HNN.out]; exact hn)) b10
        exact Mg.over' hm9 o10 (fun j e hj => by have e' : j = wA.heap.size := e; subst e'; exact HH.out.2.2.2.2 hj)
      case hround =>
        rintro B c ⟨k, x⟩ W hB hx hi hSame hsz
        clear hit hKlt h0 hSame
        dsimp only [encF]
        gi_wp2
        refine ⟨Only.refl _ _, fun W2 ho2 => ?_⟩
        obtain ⟨z1, z2, z3, z4, z5⟩ := HZ.out
        have hi2 := hi.own (by omega) hB (ho2.mono (fun j _ e => by have e' : j = wA.heap.size + 1 := e; exact ⟨by omega, by omega⟩))
        have hz2 : B ≤ W2.heap.size := Nat.le_trans hsz ho2.size
        obtain ⟨tc, pc, hpc, hL, mgc, hlc, h0c, hbk⟩ := hi2.tree
        have hT := takeG k mgc hpc
        have hcl := (List.getElem?_eq_some_iff.1 hx).1
        have cL : W2.cell? ⟨Lb, 0, none⟩ = some (.pointer pc) := (cell_of_row _ _ 0 _ 43 (0, 0) hL).trans rfl
        have hR : ∀ w5 t' pt, Below W2.heap.size W2 w5 → t'.ptr = .pointer pt → Mg w5 t' → (t'.list = tc.list.filter fun x => !decide (x.1 = k)) → (∀ j, t'.blk j → tc.blk j ∨ W2.heap.size ≤ j) →
            w5.cell? ⟨Lb, 0, none⟩ = some (.pointer pc) ∧ w5.frozen? ⟨Lb, 0, none⟩ = false ∧ (w5.setCell ⟨Lb, 0, none⟩ (.pointer pt)).cell? ⟨Nb, 0, none⟩ = some (.int .i64 (c : Nat)) ∧ (w5.setCell ⟨Lb, 0, none⟩ (.pointer pt)).frozen? ⟨Nb, 0, none⟩ = false ∧
            Hid (Only (fun j => (j = Lb ∨ j = Nb) ∨ B ≤ j) W2 ((w5.setCell ⟨Lb, 0, none⟩ (.pointer pt)).setCell ⟨Nb, 0, none⟩ (.int .i64 ((c : Int) + 1))) ∧ RmI wA Lb Nb t t.list FL B (c + 1) ((w5.setCell ⟨Lb, 0, none⟩ (.pointer pt)).setCell ⟨Nb, 0, none⟩ (.int .i64 ((c : Int) + 1)))) := fun w5 t' pt h5 q1 q2 q3 q4 => by
          have l5 := (h5.block _ (gI hL).1).trans hL
          have n5 := (h5.block _ (gI hi2.num).1).trans hi2.num
          obtain ⟨u6, o6⟩ := set_one (i := 0) (.pointer pt) l5
          have n6 := (o6.block Nb (gI n5).1 (fun e => by have e' : Nb = Lb := e; omega)).trans n5
          obtain ⟨u7, o7⟩ := set_one (i := 0) (.int .i64 ((c : Int) + 1)) n6
          have l7 := (o7.block Lb (gI u6).1 (fun e => by have e' : Lb = Nb := e; omega)).trans u6
          have oo : Only (fun j => (j = Lb ∨ j = Nb) ∨ B ≤ j) W2 ((w5.setCell ⟨Lb, 0, none⟩ (.pointer pt)).setCell ⟨Nb, 0, none⟩ (.int .i64 ((c : Int) + 1))) := ((below_only h5).next (o6.mono (fun j _ e => .inl (.inl e)))).next (o7.mono (fun j _ e => .inl (.inr e)))
          have hbk' : ∀ j, t'.blk j → (j < wA.heap.size ∧ j ≠ Lb ∧ j ≠ Nb) ∨ B ≤ j := fun j hj => by
            rcases q4 j hj with h | h
            · exact hbk j h
            · right; omega
          refine ⟨(cell_of_row _ _ 0 _ 43 (0, 0) l5).trans rfl, frozen_of_row _ _ 0 _ 43 l5, (cell_of_row _ _ 0 _ 3 (0, 0) n6).trans rfl, frozen_of_row _ _ 0 _ 3 n6, hide ⟨oo, hi2.only.next oo, by simpa using u7, by omega, t', pt, q1, by simpa using l7, ?_, ?_, fun h => by omega, hbk'⟩⟩
          · exact Mg.over' (Mg.over' q2 o6 (fun j e hj => by have e' : j = Lb := e; have := hbk' j hj; omega)) o7 (fun j e hj => by have e' : j = Nb := e; have := hbk' j hj; omega)
          · rw [q3, hlc]
            exact remC_step t.list hx
        have HR := hide hR
        have hc4 : c < 400 := by omega
        clear hR hi hi2 ho2 hsz hz2 hL mgc hlc h0c hbk hpc hx hcl z1 z2 z3 z4 z5
        gi_wp2_with (refine ⟨trivial, CallsIn.inRound _ (callsIn_wide.2 (Calls.mono hT ?_))⟩; rintro e w5 ⟨t', pt, hpt, rfl, mg5, hl5, hb5, b5⟩; obtain ⟨e1, e2, e3, e4, HY⟩ := HR.out w5 t' pt b5 hpt mg5 hl5 hb5; clear hpt mg5 hl5 hb5 b5; dsimp only)
        exact HY.out
end Go.Proofs.YtkkpdgfllnbigaaGreatDoor.Tg
namespace Go.Proofs.YtkkpdgfllnbigaaGreatDoor.Tg
open Go.RowKit Go.Shelf Go.Sort
set_option linter.unusedSimpArgs false
set_option linter.unusedVariables false

def encT (x : St) : List Value := [.int .i64 x.1, .int .i64 x.2.1, .string x.2.2.1, .int .i64 x.2.2.2.1, .int .i64 x.2.2.2.2]
abbrev zeroT : Value := .agg #[.int .i64 0, .int .i64 0, .string ⟨#[]⟩, .int .i64 0, .int .i64 0]
theorem info43t : (Tryz.prog.info? 27).map (fun i => (i.zero, i.size, i.bytes)) = some (some zeroT, 5, 48) := by kernel_rfl
def flatT (l : List St) : List Value := l.flatMap encT
theorem flatT_nil : flatT [] = [] := rfl
theorem flatT_cons (x : St) (l : List St) : flatT (x :: l) = encT x ++ flatT l := rfl
theorem flatT_app (l m : List St) : flatT (l ++ m) = flatT l ++ flatT m := by simp [flatT]
theorem flatT_len : ∀ l : List St, (flatT l).length = l.length * 5
  | [] => rfl
  | x :: l => by rw [flatT_cons, List.length_append, flatT_len l, List.length_cons]; simp [encT]; omega
theorem flatT_get : ∀ (l : List St) (k j : Nat) (x : St), l[k]? = some x → j < 5 → (flatT l)[k * 5 + j]? = (encT x)[j]?
  | [], k, j, x, h, _ => by simp at h
  | y :: l, 0, j, x, h, hj => by
    simp at h; subst h
    rw [flatT_cons, List.getElem?_append_left (by simp [encT]; omega)]
    simp
  | y :: l, k + 1, j, x, h, hj => by
    rw [flatT_cons, List.getElem?_append_right (by simp [encT]; omega)]
    rw [show (k + 1) * 5 + j - (encT y).length = k * 5 + j by simp [encT]; omega]
    exact flatT_get l k j x (by simpa using h) hj
theorem flatT_one (l : List St) (v : Value) (h : v ∈ flatT l) : v.oneCell' = true := by
  simp only [flatT, List.mem_flatMap] at h
  obtain ⟨x, _, hx⟩ := h
  simp [encT] at hx
  rcases hx with rfl | rfl | rfl | rfl | rfl <;> rfl
def Rv0 (w : World) (b off : Nat) (l : List St) : Prop := ∀ j v, (flatT l)[j]? = some v → w.cell? ⟨b, off + j, none⟩ = some v
def Ov (w : World) (B : Nat) (v : Value) (L : List St) : Prop := w.ownsRow B 27 5 v L.length (flatT L)
theorem Ov.nil (w : World) (B : Nat) : Ov w B (.slice none 0 0) [] := World.ownsRow_nil _ _ _ _
theorem Ov.rv0 {w : World} {B g n cap : Nat} {L : List St} (h : Ov w B (.slice (some ⟨g, 0, none⟩) n cap) L) : Rv0 w g 0 L := fun j v hj => by
  have := World.ownsRow.cells h (g := g) rfl j v hj
  rw [add_lit] at this
  exact this
theorem Ov.only {w w' : World} {B : Nat} {v : Value} {L : List St} {D : Nat → Prop} (h : Ov w B v L) (ho : Only D w w') (hv : ∀ k, v.ownBlock = some k → ¬ D k) : Ov w' B v L := ho.row h hv
theorem Ov.below {w w' : World} {B : Nat} {v : Value} {L : List St} (h : Ov w B v L) (hb : Below w.heap.size w w') : Ov w' B v L := h.only (Only.ofBelow hb) (fun _ _ d => d.elim)
theorem Ov.shape {w : World} {B : Nat} {v : Value} {L : List St} (h : Ov w B v L) : (v = .slice none 0 0 ∧ L = []) ∨ ∃ g cap, v = .slice (some ⟨g, 0, none⟩) L.length cap ∧ B ≤ g ∧ g < w.heap.size ∧ L.length ≤ cap := by
  have hlt := World.ownsRow.lt h
  rcases h.2 with ⟨rfl, hn⟩ | ⟨g, cap, cur, rfl, hb, hg, hnc, rest⟩
  · exact .inl ⟨rfl, List.eq_nil_of_length_eq_zero hn⟩
  · exact .inr ⟨g, cap, rfl, hb, (hlt g rfl).2, hnc⟩

def Rv (w : World) (ao : Option Addr) (l : List St) : Prop := (ao = none → l = []) ∧ ∀ a, ao = some a → ∀ j u, (flatT l)[j]? = some u → w.cell? (a.add j) = some u
theorem Rv.nil (w : World) (ao : Option Addr) : Rv w ao [] := ⟨fun _ => rfl, by simp [flatT]⟩
theorem Rv.ofRv0 {w : World} {b off : Nat} {l : List St} (h : Rv0 w b off l) : Rv w (some ⟨b, off, none⟩) l := ⟨by simp, fun a ha j u hj => by cases ha; rw [add_lit]; exact h j u hj⟩
theorem Rv.below {w w' : World} {ao : Option Addr} {l : List St} (h : Rv w ao l) (hb : Below w.heap.size w w') : Rv w' ao l := ⟨h.1, fun a ha j u hj => by
  have := h.2 a ha j u hj
  exact (hb.cell (World.block_lt_of_cell? _ _ this)).trans this⟩
theorem Rv.take {w : World} {ao : Option Addr} {l : List St} (h : Rv w ao l) (n : Nat) : Rv w ao (l.take n) := ⟨fun e => by rw [h.1 e]; simp, fun a ha j u hj => h.2 a ha j u (by
  have : flatT l = flatT (l.take n) ++ flatT (l.drop n) := by rw [← flatT_app, List.take_append_drop]
  rw [this, List.getElem?_append_left (List.getElem?_eq_some_iff.1 hj).1]; exact hj)⟩
theorem Rv.drop {w : World} {b off : Nat} {l : List St} (h : Rv w (some ⟨b, off, none⟩) l) (n : Nat) (hn : n ≤ l.length) : Rv w (some ⟨b, off + n * 5, none⟩) (l.drop n) := ⟨by simp, fun a ha j u hj => by
  cases ha
  have e : flatT l = flatT (l.take n) ++ flatT (l.drop n) := by rw [← flatT_app, List.take_append_drop]
  have e2 : (flatT (l.take n)).length = n * 5 := by rw [flatT_len, List.length_take]; omega
  have := h.2 _ rfl (n * 5 + j) u (by rw [e, List.getElem?_append_right (by omega), e2, Nat.add_sub_cancel_left]; exact hj)
  rw [add_lit] at this ⊢
  rw [Nat.add_assoc]; exact this⟩
theorem Rv.at {w : World} {ao : Option Addr} {l : List St} (h : Rv w ao l) {k : Nat} {x : St} (hx : l[k]? = some x) : ∃ b off, ao = some ⟨b, off, none⟩ ∧ ∀ i v, (encT x)[i]? = some v → w.cell? ⟨b, off + k * 5 + i, none⟩ = some v := by
  cases ao with
  | none => have := h.1 rfl; subst this; simp at hx
  | some a =>
    obtain ⟨b, off, sp⟩ := a
    have hl : 0 < l.length := by have := (List.getElem?_eq_some_iff.1 hx).1; omega
    have h0 := h.2 _ rfl 0 (.int .i64 l[0].1) (by have := flatT_get l 0 0 l[0] (List.getElem?_eq_getElem hl) (by omega); rw [Nat.zero_mul, Nat.add_zero] at this; rw [this]; rfl)
    simp only [Addr.add, if_true] at h0
    have hs : sp = none := World.cell?_spot h0
    subst hs
    refine ⟨b, off, rfl, fun i v hi => ?_⟩
    have h5x : i < 5 := by have := (List.getElem?_eq_some_iff.1 hi).1; simpa [encT] using this
    have := h.2 _ rfl (k * 5 + i) v ((flatT_get l k i x hx h5x).trans hi)
    rw [add_lit, ← Nat.add_assoc] at this
    exact this
theorem Rv.cells {w : World} {ao : Option Addr} {l : List St} (h : Rv w ao l) {k : Nat} {x : St} (hx : l[k]? = some x) : ∃ b off, ao = some ⟨b, off, none⟩ ∧ w.cell? ⟨b, off + k * 5, none⟩ = some (.int .i64 x.1) ∧ w.cell? ⟨b, off + k * 5 + 1, none⟩ = some (.int .i64 x.2.1) ∧ w.cell? ⟨b, off + k * 5 + 2, none⟩ = some (.string x.2.2.1) ∧ w.cell? ⟨b, off + k * 5 + 3, none⟩ = some (.int .i64 x.2.2.2.1) ∧ w.cell? ⟨b, off + k * 5 + 4, none⟩ = some (.int .i64 x.2.2.2.2) := by
  obtain ⟨b, off, e, hc⟩ := h.at hx
  exact ⟨b, off, e, hc 0 _ rfl, hc 1 _ rfl, hc 2 _ rfl, hc 3 _ rfl, hc 4 _ rfl⟩
theorem Ov.rv {w : World} {B : Nat} {ao : Option Addr} {n c : Nat} {L : List St} (h : Ov w B (.slice ao n c) L) : Rv w ao L := by
  rcases h.shape with ⟨e, rfl⟩ | ⟨g, cap, e, _⟩
  · exact Rv.nil _ _
  · cases e; exact Rv.ofRv0 h.rv0
theorem Ov.form {w : World} {B : Nat} {v : Value} {L : List St} (h : Ov w B v L) : ∃ ao c, v = .slice ao L.length c ∧ Rv w ao L ∧ (ao = none → c = 0) ∧ L.length ≤ c ∧ (∀ a, ao = some a → B ≤ a.block ∧ a.block < w.heap.size ∧ a.spot = none) := by
  rcases h.shape with ⟨e, rfl⟩ | ⟨g, cap, e, h1, h2, h3⟩
  · exact ⟨none, 0, e, Rv.nil _ _, fun _ => rfl, by simp, by simp⟩
  · subst e; exact ⟨_, _, rfl, h.rv, by simp, h3, fun a ha => by cases ha; exact ⟨h1, h2, rfl⟩⟩
theorem Ov.lift {w : World} {B B' : Nat} {v : Value} {L : List St} (h : Ov w B v L) (hB : B' ≤ B) : Ov w B' v L := by
  refine ⟨h.1, ?_⟩
  rcases h.2 with h2 | ⟨g, cap, cur, h1, h2, h3⟩
  · exact .inl h2
  · exact .inr ⟨g, cap, cur, h1, by omega, h3⟩
theorem Ov.alloc {w : World} {B : Nat} {v : Value} {L : List St} (h : Ov w B v L) (o : Obj) : Ov (w.alloc o) B v L := World.ownsRow.alloc h o
theorem push_OvW {w : World} {B b : Nat} {v : Value} {p : List St} {y : St} (hown : Ov w B v p) (hcell : w.heap[b]? = some (.cells (encT y).toArray 27 (0, 0))) (hp : p.length + 1 ≤ 1000000) (hB : B ≤ w.heap.size) :
    ∃ a' c' w', (Builtin.append_ #[53, 53] 53 #[v, .slice (some ⟨b, 0, none⟩) 1 1]).run Tryz.prog w = .ok (.slice a' (p.length + 1) c') w' ∧ Ov w' B (.slice a' (p.length + 1) c') (p ++ [y]) ∧ Only (fun k => v.ownBlock = some k) w w' ∧ Where w v (.slice a' (p.length + 1) c') := by
  obtain ⟨i0, hi, hz0, hz1, hz2⟩ := info_of info43t
  obtain ⟨v', w', hr, h2, h3, h4⟩ := append_where (P := Tryz.prog) w 53 53 27 i0 zeroT 5 48 Tryz.underlying53 hi hz0 hz1 hz2 rfl (by decide) v p.length (flatT p) (Ov.lift hown (Nat.zero_le _)) ⟨b, 0, none⟩ 1 1 (encT y) (by simp [encT]) (fun j u hj => by rw [add_lit, cell_of_row _ _ (0 + j) (encT y).toArray 27 (0, 0) hcell, Nat.zero_add]; simpa using hj) (fun u hu => flatT_one [y] u (by simpa [flatT] using hu)) (by unfold maxLen; omega) (by omega)
  have hO : Ov w' 0 v' (p ++ [y]) := by
    unfold Ov
    rw [flatT_app, List.length_append, flatT_cons, flatT_nil, List.append_nil]
    exact h2
  obtain ⟨a', c', hv, _, _⟩ := row_form hO
  subst hv
  rw [List.length_append] at hO hr h4
  refine ⟨a', c', w', hr, ?_, Only.ofGrown h3, h4⟩
  rcases hO with ⟨q1, q2⟩
  refine ⟨q1, ?_⟩
  rcases q2 with q2 | ⟨g, cap, cur, e, hb, r⟩
  · exact .inl q2
  · refine .inr ⟨g, cap, cur, e, ?_, r⟩
    rcases h4 g (by rw [show (Value.slice a' (p.length + [y].length) c') = _ from e]; rfl) with h | h
    · exact (World.ownsRow.lt hown g h).1
    · omega
end Go.Proofs.YtkkpdgfllnbigaaGreatDoor.Tg
