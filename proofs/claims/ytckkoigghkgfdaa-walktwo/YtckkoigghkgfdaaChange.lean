/-
  change 26: what is taken and put.
-/
import Derived.Test.YtckkoigghkgfdaaElem
import Derived.Test.YtckkoigghkgfdaaCsl
namespace Go.Proofs.Ytckkoigghkgfdaa
open Go.RowKit Go.Shelf
set_option linter.unusedSimpArgs false

theorem srt_del {l : List (ByteArray × Int)} (h : Srt l) (k : ByteArray) : Srt (del k l) := by
  unfold del
  split
  · refine List.Pairwise.sublist ?_ h
    have h1 : List.Sublist (l.take (pos k l) ++ l.drop (pos k l + 1)) (l.take (pos k l) ++ l.drop (pos k l)) := List.Sublist.append (List.Sublist.refl _) (List.drop_sublist_drop_left _ (by omega))
    rw [List.take_append_drop] at h1
    exact h1
  · exact h
/-- What is taken, by the places of keys; what is put. -/
def takeOne (ks : List ByteArray) (l : List (ByteArray × Int)) (m : Int) : List (ByteArray × Int) := if 0 ≤ m ∧ m < ks.length then del (ks.getD m.toNat ⟨#[]⟩) l else l
def putOne (l : List (ByteArray × Int)) (k : ByteArray) : List (ByteArray × Int) := ins k (k.size : Nat) l
/-- What stands from round to round. -/
structure ChI (w wr : World) (t : T) (N : Nat) : Prop where
  box : wr.heap[w.heap.size]? = some (.cells #[t.ptr] 29 (0, 0))
  out : wr.heap[w.heap.size + 1]? = some (.cells #[.pointer none] 29 (0, 0))
  tree : In wr t
  bal : t.bal
  srt : Srt t.list
  few : t.n ≤ N
  below : Below w.heap.size w wr
theorem csAt {W : World} {v : Value} {l : List Value} (h : Cs W v l) {j : Nat} {u : Value} (hj : l[j]? = some u) : ∃ b off cap, v = .slice (some ⟨b, off, none⟩) l.length cap ∧ W.cell? ⟨b, off + j, none⟩ = some u := by
  obtain ⟨ao, cap, e, _, h2⟩ := h.ex
  obtain ⟨b, off, ha, hc⟩ := h2 j u hj
  exact ⟨b, off, cap, by rw [e, ha], hc⟩
set_option maxHeartbeats 8000000 in
set_option maxRecDepth 100000 in
theorem change_any (t : T) (ps ks : List ByteArray) (ts : List Int) (pv' tv kv : Value) (w : World) (it : In w t) (hbal : t.bal) (hs : Srt t.list) (hn : t.n ≤ 1000) (hp : Cs w pv' (ps.map .string)) (ht : Cs w tv (ts.map (.int .i64))) (hk : Cs w kv (ks.map .string)) (l1 : ps.length ≤ 1000) (l2 : ts.length ≤ 1000) :
    Calls Try.prog 26 #[mv t, pv', tv, kv] w fun e w' => ∃ t', e = .returned (mv t') ∧ In w' t' ∧ t'.bal ∧ Srt t'.list ∧ t'.list = ps.foldl putOne (ts.foldl (takeOne ks) t.list) ∧ t'.n ≤ t.n + ps.length ∧ Below w.heap.size w w' := by
  obtain ⟨pa, pc, rfl, -⟩ := hp.ex
  obtain ⟨ta, tc, rfl, -⟩ := ht.ex
  obtain ⟨ka, kc, rfl, -⟩ := hk.ex
  simp only [List.length_map] at *
  obtain ⟨x, hx⟩ := t.ptr_shape
  rw [mv_ptr hx]
  obtain ⟨n0, n1⟩ := new2 w (.cells #[.pointer x] 29) (.cells #[.pointer none] 29)
  have hb : Below w.heap.size w ((w.alloc (.cells #[.pointer x] 29)).alloc (.cells #[.pointer none] 29)) := ((Below.refl _ w).alloc (Nat.le_refl _) _).alloc (by simp) _
  obtain ⟨N0, hN0⟩ : ∃ N0, N0 = t.n := ⟨_, rfl⟩
  have i0 : ChI w ((w.alloc (.cells #[.pointer x] 29)).alloc (.cells #[.pointer none] 29)) t N0 := ⟨by rw [hx]; exact n0, n1, In.below hb it, hbal, hs, by omega, hb⟩
  have HI := hide i0
  have HC := hide (And.intro hp (And.intro ht hk))
  obtain ⟨NP, hNP⟩ : ∃ NP, NP = ps.length := ⟨_, rfl⟩
  obtain ⟨NT, hNT⟩ : ∃ NT, NT = ts.length := ⟨_, rfl⟩
  obtain ⟨NK, hNK⟩ : ∃ NK, NK = ks.length := ⟨_, rfl⟩
  rw [← hNP] at l1
  rw [← hNT] at l2
  rw [← hNP, ← hNT, ← hNK]
  have HN := hide (And.intro hNP (And.intro hNT (And.intro hNK hN0)))
  have hn0 : N0 ≤ 1000 := by omega
  clear n0 n1 hb i0 hp ht hk it hbal hs hx hN0 hNP hNT hNK hn
  go_enter Try.func26, Try.ntmps26
  go_wp2
  go_loopw [9] (fun v9 wr => ∃ (i : Nat) (s : T), i ≤ NT ∧ v9 = .int .i64 i ∧ Hid (s.list = (ts.take i).foldl (takeOne ks) t.list) ∧ Hid (ChI w wr s N0)) (fun v9 _ => NT - (intOf v9).toNat)
  case atStart => exact ⟨0, t, by omega, rfl, hide rfl, HI⟩
  case round =>
    obtain ⟨i, s, hi, rfl, HLS, HL⟩ := hrel
    by_cases hiT : i < NT
    · have y1 : (i : Int) < (NT : Int) := by omega
      have hlt : i < ts.length := by rw [← HN.out.2.1]; exact hiT
      obtain ⟨mz, hmz⟩ : ∃ mz, ts[i]? = some mz := ⟨ts[i], List.getElem?_eq_getElem hlt⟩
      obtain ⟨tb, tf, tc', e1, ctw⟩ := csAt HC.out.2.1 (j := i) (u := .int .i64 mz) (by rw [List.getElem?_map, hmz]; rfl)
      simp only [Value.slice.injEq] at e1
      obtain ⟨rfl, -, rfl⟩ := e1
      have ct := cell_stays ctw HL.out.below
      have hltb := World.block_lt_of_cell? w _ ctw
      simp only at hltb
      have htk : (ts.take (i + 1)).foldl (takeOne ks) t.list = takeOne ks ((ts.take i).foldl (takeOne ks) t.list) mz := by rw [List.take_add_one, hmz]; simp
      have HTK := hide htk
      clear htk hmz ctw
      by_cases hm0 : 0 ≤ mz
      · by_cases hmk : mz < (NK : Int)
        · obtain ⟨m, rfl⟩ : ∃ m : Nat, mz = (m : Int) := ⟨mz.toNat, by omega⟩
          have hmk' : m < ks.length := by have := HN.out.2.2.1; omega
          obtain ⟨k, hkk⟩ : ∃ k, ks[m]? = some k := ⟨ks[m], List.getElem?_eq_getElem hmk'⟩
          obtain ⟨kb, ko, kc', e2, ckw⟩ := csAt HC.out.2.2 (j := m) (u := .string k) (by rw [List.getElem?_map, hkk]; rfl)
          simp only [Value.slice.injEq] at e2
          obtain ⟨rfl, -, rfl⟩ := e2
          have ck := cell_stays ckw HL.out.below
          have hkb := World.block_lt_of_cell? w _ ckw
          simp only at hkb
          obtain ⟨a, ha⟩ := s.ptr_shape
          have hfew := HL.out.few
          have mt : ∀ W, Below wr.heap.size wr W → Calls Try.prog 24 #[.agg #[.pointer a], .string k] W fun e w' => ∃ t', e = .returned (mv t') ∧ In w' t' ∧ Takes W.heap.size k s t' ∧ Below W.heap.size W w' := fun W hW => by
            have := mTake_any s k W (In.below hW HL.out.tree) (by omega)
            rw [mv_ptr ha] at this
            exact this
          have hbx : wr.heap[w.heap.size]? = some (.cells #[.pointer a] 29 (0, 0)) := by rw [HL.out.box, ha]
          have c14d : wr.drew.cell? ⟨w.heap.size, 0, none⟩ = some (.pointer a) := (cell_of_row wr.drew _ 0 _ 29 (0, 0) hbx).trans rfl
          have cb : wr.cell? ⟨w.heap.size, 0, none⟩ = some (.pointer a) := c14d
          have HKK := hide hkk
          have q0 : wr.cell? ⟨tb, tf + i, none⟩ = some (.int .i64 (m : Nat)) ∧ wr.cell? ⟨kb, ko + m, none⟩ = some (.string k) ∧ Hid (Below w.heap.size w wr) := ⟨ct, ck, hide HL.out.below⟩
          clear ckw hkk
          go_upto_region 5 with (fail)
          have qd : wr.drew.cell? ⟨tb, tf + i, none⟩ = some (.int .i64 (m : Nat)) ∧ wr.drew.cell? ⟨kb, ko + m, none⟩ = some (.string k) ∧ Hid (Below w.heap.size w wr.drew) := ⟨q0.1, q0.2.1, hide (q0.2.2.out.trans ((drew_below wr).mono q0.2.2.out.size))⟩
          refine wp_region_held_drew (S := (fun w' => w'.cell? ⟨tb, tf + i, none⟩ = some (.int .i64 (m : Nat)) ∧ w'.cell? ⟨kb, ko + m, none⟩ = some (.string k) ∧ Hid (Below w.heap.size w w'))) (by kernel_rfl) qd (fun hHeld => ?_)
          try dsimp only at hHeld
          refine take_op (i := 1) (d := 32) (OP := Op.move (Operand.tmp 3)) (T := 22) (v := ?vzz1) rfl rfl rfl rfl (by kernel_rfl) (by kernel_rfl) (by kernel_rfl) (fun _ _ _ h => h) (by rfl) ?hzz1 hHeld ?rzz1
          case hzz1 => (intro w' hSw; (try dsimp only at hSw); go_simp <;> with_reducible rfl)
          try simp only [Act.put, List.setIfInBounds_toArray, List.set_cons_zero, List.set_cons_succ]
          refine take_op (i := 2) (d := 33) (OP := Op.move (Operand.tmp 2)) (T := 23) (v := ?vzz2) rfl rfl rfl rfl (by kernel_rfl) (by kernel_rfl) (by kernel_rfl) (fun _ _ _ h => h) (by rfl) ?hzz2 hHeld ?rzz2
          case hzz2 => (intro w' hSw; (try dsimp only at hSw); go_simp <;> with_reducible rfl)
          try simp only [Act.put, List.setIfInBounds_toArray, List.set_cons_zero, List.set_cons_succ]
          refine take_op (i := 3) (d := 34) (OP := Op.move (Operand.tmp 9)) (T := 3) (v := ?vzz3) rfl rfl rfl rfl (by kernel_rfl) (by kernel_rfl) (by kernel_rfl) (fun _ _ _ h => h) (by rfl) ?hzz3 hHeld ?rzz3
          case hzz3 => (intro w' hSw; (try dsimp only at hSw); go_simp <;> with_reducible rfl)
          try simp only [Act.put, List.setIfInBounds_toArray, List.set_cons_zero, List.set_cons_succ]
          refine take_op (i := 4) (d := 35) (OP := Op.indexAddr 23 (Operand.tmp 33) (Operand.tmp 34)) (T := 0) (v := ?vzz4) rfl rfl rfl rfl (by kernel_rfl) (by kernel_rfl) (by kernel_rfl) (fun _ _ _ h => h) (by rfl) ?hzz4 hHeld ?rzz4
          case hzz4 => (intro w' hSw; (try dsimp only at hSw); go_simp <;> with_reducible rfl)
          try simp only [Act.put, List.setIfInBounds_toArray, List.set_cons_zero, List.set_cons_succ]
          refine take_op (i := 5) (d := 36) (OP := Op.load 3 (Operand.tmp 35)) (T := 3) (v := ?vzz5) rfl rfl rfl rfl (by kernel_rfl) (by kernel_rfl) (by kernel_rfl) (fun _ _ _ h => h) (by rfl) ?hzz5 hHeld ?rzz5
          case hzz5 => (intro w' hSw; (try dsimp only at hSw); go_simp <;> with_reducible rfl)
          try simp only [Act.put, List.setIfInBounds_toArray, List.set_cons_zero, List.set_cons_succ]
          refine take_op (i := 6) (d := 37) (OP := Op.indexAddr 22 (Operand.tmp 32) (Operand.tmp 36)) (T := 0) (v := ?vzz6) rfl rfl rfl rfl (by kernel_rfl) (by kernel_rfl) (by kernel_rfl) (fun _ _ _ h => h) (by rfl) ?hzz6 hHeld ?rzz6
          case hzz6 => (intro w' hSw; (try dsimp only at hSw); go_simp <;> with_reducible rfl)
          try simp only [Act.put, List.setIfInBounds_toArray, List.set_cons_zero, List.set_cons_succ]
          refine take_op (i := 7) (d := 38) (OP := Op.load 9 (Operand.tmp 37)) (T := 9) (v := ?vzz7) rfl rfl rfl rfl (by kernel_rfl) (by kernel_rfl) (by kernel_rfl) (fun _ _ _ h => h) (by rfl) ?hzz7 hHeld ?rzz7
          case hzz7 => (intro w' hSw; (try dsimp only at hSw); go_simp <;> with_reducible rfl)
          try simp only [Act.put, List.setIfInBounds_toArray, List.set_cons_zero, List.set_cons_succ]
          refine alone_op (i := 0) (d := 31) (OP := Op.load 29 (Operand.tmp 4)) (T := 29) (v := .agg #[.pointer a]) rfl rfl rfl rfl (by kernel_rfl) (by rfl) (by go_simp) qd ?_
          try simp only [Act.put, List.setIfInBounds_toArray, List.set_cons_zero, List.set_cons_succ]
          refine call_op (i := 8) (d := 39) (OP := Op.call { callee := Callee.value (Operand.func 24), args := #[Operand.tmp 31, Operand.tmp 38], argTypes := #[29, 9] }) (T := 29) (f := 24) (args := #[.agg #[.pointer a], .string k]) rfl rfl rfl rfl (by kernel_rfl) (by rfl) (by go_simp) ?_
          refine (mt _ (drew_below wr)).mono ?_
          rintro e v1 ⟨t', he, i1, ht, b1⟩
          obtain ⟨a', ha'⟩ := t'.ptr_shape
          have he' : e = .returned (.agg #[.pointer a']) := by rw [he, mv_ptr ha']
          subst he'
          clear he
          have bk1 : Below wr.heap.size wr v1 := (drew_below wr).trans (b1.mono (drew_below wr).size)
          have qv1 : v1.cell? ⟨tb, tf + i, none⟩ = some (.int .i64 (m : Nat)) ∧ v1.cell? ⟨kb, ko + m, none⟩ = some (.string k) ∧ Hid (Below w.heap.size w v1) := ⟨cell_stays qd.1 b1, cell_stays qd.2.1 b1, hide (qd.2.2.out.trans (b1.mono qd.2.2.out.size))⟩
          refine ⟨_, rfl, qv1, ?_⟩
          replace hHeld := qv1
          try simp only [Act.put, List.setIfInBounds_toArray, List.set_cons_zero, List.set_cons_succ]
          have h2 : v1.heap[w.heap.size]? = some (.cells #[.pointer a] 29 (0, 0)) := (bk1.block _ (Array.getElem?_eq_some_iff.1 hbx).1).trans hbx
          have c2 : v1.cell? ⟨w.heap.size, 0, none⟩ = some (.pointer a) := (cell_of_row _ _ 0 _ 29 (0, 0) h2).trans rfl
          have f2 : v1.frozen? ⟨w.heap.size, 0, none⟩ = false := frozen_of_row _ _ 0 _ 29 h2
          have sy := ht.says HL.out.srt HL.out.bal (In.underP (In.below (drew_below wr) HL.out.tree))
          have hlist : t'.list = del k s.list := ht.list HL.out.srt
          obtain ⟨o1, o2, o3⟩ := put_box (y := .pointer a') h2 (Nat.le_refl _) (HL.out.below.trans (bk1.mono HL.out.below.size))
          have r8 := (o3.block _ (Nat.lt_of_lt_of_le (Array.getElem?_eq_some_iff.1 HL.out.out).1 bk1.size) (by omega)).trans ((bk1.block _ (Array.getElem?_eq_some_iff.1 HL.out.out).1).trans HL.out.out)
          have hI : ChI w (v1.setCell ⟨w.heap.size, 0, none⟩ (.pointer a')) t' (N0) := ⟨by rw [ha']; exact o1, r8, In.aside h2 o3 i1, sy.bal, by rw [hlist]; exact srt_del HL.out.srt k, by have := ht.n; have := HL.out.few; omega, o2⟩
          have HI3 := hide hI
          have HLI := hide hlist
          have q3 : (v1.setCell ⟨w.heap.size, 0, none⟩ (.pointer a')).cell? ⟨tb, tf + i, none⟩ = some (.int .i64 (m : Nat)) ∧ (v1.setCell ⟨w.heap.size, 0, none⟩ (.pointer a')).cell? ⟨kb, ko + m, none⟩ = some (.string k) ∧ Hid (Below w.heap.size w (v1.setCell ⟨w.heap.size, 0, none⟩ (.pointer a'))) := ⟨o3.cell qv1.1 (fun e => by simp only at e; omega), o3.cell qv1.2.1 (fun e => by simp only at e; omega), hide o2⟩
          obtain ⟨v3, hv3⟩ : ∃ v3, v3 = v1.setCell ⟨w.heap.size, 0, none⟩ (.pointer a') := ⟨_, rfl⟩
          rw [← hv3] at HI3 q3
          refine skip_op (i := 9) (OP := Op.store 29 (Operand.tmp 4) (Operand.tmp 39)) (T := 0) (w' := v3) rfl rfl rfl rfl (by kernel_rfl) (by rfl) (by rw [hv3]; go_simp) ⟨q3, ?_⟩
          try simp only [Act.put, List.setIfInBounds_toArray, List.set_cons_zero, List.set_cons_succ]
          replace hHeld := q3
          clear hv3
          refine wpAnyH_done (by kernel_rfl) ?_ _
          clear hI q3 hHeld h2 c2 f2 sy hlist o1 o2 o3 r8 mt qv1 bk1 b1 i1 ht c14d cb q0 qd hbx
          go_wp2
          go_roundw
          case rel => exact ⟨i + 1, t', by omega, by go_num, hide (by rw [HTK.out, HLI.out, HLS.out]; unfold takeOne; rw [if_pos ⟨by omega, by omega⟩]; simp [HKK.out]), HI3⟩
          case measure => simp [intOf]; omega
        · have z1 : decide (mz < (NK : Int)) = false := by simpa using hmk
          go_wp2
          go_roundw
          case rel => exact ⟨i + 1, s, by omega, by go_num, hide (by rw [HTK.out, HLS.out]; unfold takeOne; rw [if_neg (by have := HN.out.2.2.1; omega)]), HL⟩
          case measure => simp [intOf]; omega
      · have z1 : decide (0 ≤ mz) = false := by simpa using hm0
        go_wp2
        go_roundw
        case rel => exact ⟨i + 1, s, by omega, by go_num, hide (by rw [HTK.out, HLS.out]; unfold takeOne; rw [if_neg (by omega)]), HL⟩
        case measure => simp [intOf]; omega
    · have ei : i = NT := by omega
      subst ei
      have y1 : decide ((i : Int) < (i : Int)) = false := by simp
      have HS0 : Hid (s.list = ts.foldl (takeOne ks) t.list) := hide (by have := HLS.out; rw [HN.out.2.1, List.take_length] at this; exact this)
      have HL0 := HL
      clear HLS HL hiT HI
      go_wp2
      go_loopw [10] (fun v10 wr => ∃ (j : Nat) (r : T), j ≤ NP ∧ v10 = .int .i64 j ∧ Hid (r.list = (ps.take j).foldl putOne (ts.foldl (takeOne ks) t.list)) ∧ Hid (ChI w wr r (N0 + j))) (fun v10 _ => NP - (intOf v10).toNat)
      case atStart => exact ⟨0, s, by omega, rfl, hide (by simpa using HS0.out), HL0⟩
      case round =>
        obtain ⟨j, r, hj, rfl, HLS, HL⟩ := hrel
        by_cases hjP : j < NP
        · have y2 : (j : Int) < (NP : Int) := by omega
          have hlt : j < ps.length := by rw [← HN.out.1]; exact hjP
          obtain ⟨k, hkk⟩ : ∃ k, ps[j]? = some k := ⟨ps[j], List.getElem?_eq_getElem hlt⟩
          obtain ⟨pb, pf, pc', e1, cpw⟩ := csAt HC.out.1 (j := j) (u := .string k) (by rw [List.getElem?_map, hkk]; rfl)
          simp only [Value.slice.injEq] at e1
          obtain ⟨rfl, -, rfl⟩ := e1
          have cp := cell_stays cpw HL.out.below
          have hpb := World.block_lt_of_cell? w _ cpw
          simp only at hpb
          have HTK := hide (show (ps.take (j + 1)).foldl putOne (ts.foldl (takeOne ks) t.list) = putOne ((ps.take j).foldl putOne (ts.foldl (takeOne ks) t.list)) k by rw [List.take_add_one, hkk]; simp)
          obtain ⟨a, ha⟩ := r.ptr_shape
          have hfew := HL.out.few
          have mp : ∀ W, Below wr.heap.size wr W → Calls Try.prog 25 #[.agg #[.pointer a], .string k, .int .i64 (k.size : Nat)] W fun e w' => ∃ t', e = .returned (mv t') ∧ In w' t' ∧ Puts W.heap.size k (k.size : Nat) r t' ∧ Below W.heap.size W w' := fun W hW => by
            have := mPut_any r k (k.size : Nat) W (In.below hW HL.out.tree) (by omega)
            rw [mv_ptr ha] at this
            exact this
          have hbx : wr.heap[w.heap.size]? = some (.cells #[.pointer a] 29 (0, 0)) := by rw [HL.out.box, ha]
          have c14d : wr.drew.cell? ⟨w.heap.size, 0, none⟩ = some (.pointer a) := (cell_of_row wr.drew _ 0 _ 29 (0, 0) hbx).trans rfl
          have q0 : wr.cell? ⟨pb, pf + j, none⟩ = some (.string k) ∧ Hid (Below w.heap.size w wr) := ⟨cp, hide HL.out.below⟩
          clear cpw hkk
          go_upto_region 9 with (fail)
          have qd : wr.drew.cell? ⟨pb, pf + j, none⟩ = some (.string k) ∧ Hid (Below w.heap.size w wr.drew) := ⟨q0.1, hide (q0.2.out.trans ((drew_below wr).mono q0.2.out.size))⟩
          refine wp_region_held_drew (S := (fun w' => w'.cell? ⟨pb, pf + j, none⟩ = some (.string k) ∧ Hid (Below w.heap.size w w'))) (by kernel_rfl) qd (fun hHeld => ?_)
          try dsimp only at hHeld
          refine take_op (i := 1) (d := 47) (OP := Op.move (Operand.tmp 1)) (T := 22) (v := ?vzz8) rfl rfl rfl rfl (by kernel_rfl) (by kernel_rfl) (by kernel_rfl) (fun _ _ _ h => h) (by rfl) ?hzz8 hHeld ?rzz8
          case hzz8 => (intro w' hSw; (try dsimp only at hSw); go_simp <;> with_reducible rfl)
          try simp only [Act.put, List.setIfInBounds_toArray, List.set_cons_zero, List.set_cons_succ]
          refine take_op (i := 2) (d := 48) (OP := Op.move (Operand.tmp 10)) (T := 3) (v := ?vzz9) rfl rfl rfl rfl (by kernel_rfl) (by kernel_rfl) (by kernel_rfl) (fun _ _ _ h => h) (by rfl) ?hzz9 hHeld ?rzz9
          case hzz9 => (intro w' hSw; (try dsimp only at hSw); go_simp <;> with_reducible rfl)
          try simp only [Act.put, List.setIfInBounds_toArray, List.set_cons_zero, List.set_cons_succ]
          refine take_op (i := 3) (d := 49) (OP := Op.indexAddr 22 (Operand.tmp 47) (Operand.tmp 48)) (T := 0) (v := ?vzz10) rfl rfl rfl rfl (by kernel_rfl) (by kernel_rfl) (by kernel_rfl) (fun _ _ _ h => h) (by rfl) ?hzz10 hHeld ?rzz10
          case hzz10 => (intro w' hSw; (try dsimp only at hSw); go_simp <;> with_reducible rfl)
          try simp only [Act.put, List.setIfInBounds_toArray, List.set_cons_zero, List.set_cons_succ]
          refine take_op (i := 4) (d := 50) (OP := Op.load 9 (Operand.tmp 49)) (T := 9) (v := ?vzz11) rfl rfl rfl rfl (by kernel_rfl) (by kernel_rfl) (by kernel_rfl) (fun _ _ _ h => h) (by rfl) ?hzz11 hHeld ?rzz11
          case hzz11 => (intro w' hSw; (try dsimp only at hSw); go_simp <;> with_reducible rfl)
          try simp only [Act.put, List.setIfInBounds_toArray, List.set_cons_zero, List.set_cons_succ]
          refine take_op (i := 5) (d := 51) (OP := Op.move (Operand.tmp 1)) (T := 22) (v := ?vzz12) rfl rfl rfl rfl (by kernel_rfl) (by kernel_rfl) (by kernel_rfl) (fun _ _ _ h => h) (by rfl) ?hzz12 hHeld ?rzz12
          case hzz12 => (intro w' hSw; (try dsimp only at hSw); go_simp <;> with_reducible rfl)
          try simp only [Act.put, List.setIfInBounds_toArray, List.set_cons_zero, List.set_cons_succ]
          refine take_op (i := 6) (d := 52) (OP := Op.move (Operand.tmp 10)) (T := 3) (v := ?vzz13) rfl rfl rfl rfl (by kernel_rfl) (by kernel_rfl) (by kernel_rfl) (fun _ _ _ h => h) (by rfl) ?hzz13 hHeld ?rzz13
          case hzz13 => (intro w' hSw; (try dsimp only at hSw); go_simp <;> with_reducible rfl)
          try simp only [Act.put, List.setIfInBounds_toArray, List.set_cons_zero, List.set_cons_succ]
          refine take_op (i := 7) (d := 53) (OP := Op.indexAddr 22 (Operand.tmp 51) (Operand.tmp 52)) (T := 0) (v := ?vzz14) rfl rfl rfl rfl (by kernel_rfl) (by kernel_rfl) (by kernel_rfl) (fun _ _ _ h => h) (by rfl) ?hzz14 hHeld ?rzz14
          case hzz14 => (intro w' hSw; (try dsimp only at hSw); go_simp <;> with_reducible rfl)
          try simp only [Act.put, List.setIfInBounds_toArray, List.set_cons_zero, List.set_cons_succ]
          refine take_op (i := 8) (d := 54) (OP := Op.load 9 (Operand.tmp 53)) (T := 9) (v := ?vzz15) rfl rfl rfl rfl (by kernel_rfl) (by kernel_rfl) (by kernel_rfl) (fun _ _ _ h => h) (by rfl) ?hzz15 hHeld ?rzz15
          case hzz15 => (intro w' hSw; (try dsimp only at hSw); go_simp <;> with_reducible rfl)
          try simp only [Act.put, List.setIfInBounds_toArray, List.set_cons_zero, List.set_cons_succ]
          refine take_op (i := 9) (d := 55) (OP := Op.call { callee := Callee.builtin Builtin.len, args := #[Operand.tmp 54], argTypes := #[9] }) (T := 3) (v := ?vzz16) rfl rfl rfl rfl (by kernel_rfl) (by kernel_rfl) (by kernel_rfl) (fun _ _ _ h => h) (by rfl) ?hzz16 hHeld ?rzz16
          case hzz16 => (intro w' hSw; (try dsimp only at hSw); go_simp <;> with_reducible rfl)
          try simp only [Act.put, List.setIfInBounds_toArray, List.set_cons_zero, List.set_cons_succ]
          refine alone_op (i := 0) (d := 46) (OP := Op.load 29 (Operand.tmp 4)) (T := 29) (v := .agg #[.pointer a]) rfl rfl rfl rfl (by kernel_rfl) (by rfl) (by go_simp) qd ?_
          try simp only [Act.put, List.setIfInBounds_toArray, List.set_cons_zero, List.set_cons_succ]
          refine call_op (i := 10) (d := 56) (OP := Op.call { callee := Callee.value (Operand.func 25), args := #[Operand.tmp 46, Operand.tmp 50, Operand.tmp 55], argTypes := #[29, 9, 3] }) (T := 29) (f := 25) (args := #[.agg #[.pointer a], .string k, .int .i64 (k.size : Nat)]) rfl rfl rfl rfl (by kernel_rfl) (by rfl) (by go_simp) ?_
          refine (mp _ (drew_below wr)).mono ?_
          rintro e v1 ⟨t', he, i1, ht, b1⟩
          obtain ⟨a', ha'⟩ := t'.ptr_shape
          have he' : e = .returned (.agg #[.pointer a']) := by rw [he, mv_ptr ha']
          subst he'
          clear he
          have bk1 : Below wr.heap.size wr v1 := (drew_below wr).trans (b1.mono (drew_below wr).size)
          have qv1 : v1.cell? ⟨pb, pf + j, none⟩ = some (.string k) ∧ Hid (Below w.heap.size w v1) := ⟨cell_stays qd.1 b1, hide (qd.2.out.trans (b1.mono qd.2.out.size))⟩
          refine ⟨_, rfl, qv1, ?_⟩
          replace hHeld := qv1
          try simp only [Act.put, List.setIfInBounds_toArray, List.set_cons_zero, List.set_cons_succ]
          have h2 : v1.heap[w.heap.size]? = some (.cells #[.pointer a] 29 (0, 0)) := (bk1.block _ (Array.getElem?_eq_some_iff.1 hbx).1).trans hbx
          have c2 : v1.cell? ⟨w.heap.size, 0, none⟩ = some (.pointer a) := (cell_of_row _ _ 0 _ 29 (0, 0) h2).trans rfl
          have f2 : v1.frozen? ⟨w.heap.size, 0, none⟩ = false := frozen_of_row _ _ 0 _ 29 h2
          have sy := ht.says HL.out.srt HL.out.bal (In.underP (In.below (drew_below wr) HL.out.tree))
          have hlist : t'.list = ins k (k.size : Nat) r.list := ht.list HL.out.srt
          obtain ⟨o1, o2, o3⟩ := put_box (y := .pointer a') h2 (Nat.le_refl _) (HL.out.below.trans (bk1.mono HL.out.below.size))
          have r8 := (o3.block _ (Nat.lt_of_lt_of_le (Array.getElem?_eq_some_iff.1 HL.out.out).1 bk1.size) (by omega)).trans ((bk1.block _ (Array.getElem?_eq_some_iff.1 HL.out.out).1).trans HL.out.out)
          have hI : ChI w (v1.setCell ⟨w.heap.size, 0, none⟩ (.pointer a')) t' (N0 + (j + 1)) := ⟨by rw [ha']; exact o1, r8, In.aside h2 o3 i1, sy.bal, by rw [hlist]; exact srt_ins HL.out.srt k _, by have := ht.n; have := HL.out.few; omega, o2⟩
          have HI3 := hide hI
          have HLI := hide hlist
          have q3 : (v1.setCell ⟨w.heap.size, 0, none⟩ (.pointer a')).cell? ⟨pb, pf + j, none⟩ = some (.string k) ∧ Hid (Below w.heap.size w (v1.setCell ⟨w.heap.size, 0, none⟩ (.pointer a'))) := ⟨o3.cell qv1.1 (fun e => by simp only at e; omega), hide o2⟩
          obtain ⟨v3, hv3⟩ : ∃ v3, v3 = v1.setCell ⟨w.heap.size, 0, none⟩ (.pointer a') := ⟨_, rfl⟩
          rw [← hv3] at HI3 q3
          refine skip_op (i := 11) (OP := Op.store 29 (Operand.tmp 4) (Operand.tmp 56)) (T := 0) (w' := v3) rfl rfl rfl rfl (by kernel_rfl) (by rfl) (by rw [hv3]; go_simp) ⟨q3, ?_⟩
          try simp only [Act.put, List.setIfInBounds_toArray, List.set_cons_zero, List.set_cons_succ]
          replace hHeld := q3
          clear hv3
          refine wpAnyH_done (by kernel_rfl) ?_ _
          clear hI q3 hHeld h2 c2 f2 sy hlist o1 o2 o3 r8 mp qv1 bk1 b1 i1 ht c14d q0 qd hbx
          go_wp2
          go_roundw
          case rel => exact ⟨j + 1, t', by omega, by go_num, hide (by rw [HTK.out, HLI.out, HLS.out]; rfl), HI3⟩
          case measure => simp [intOf]; omega
        · have ej : j = NP := by omega
          subst ej
          have y2 : decide ((j : Int) < (j : Int)) = false := by simp
          obtain ⟨a, ha⟩ := r.ptr_shape
          have hL := HL.out
          have c4 : wr.cell? ⟨w.heap.size, 0, none⟩ = some (.pointer a) := by rw [cell_of_row _ _ 0 _ 29 (0, 0) hL.box, ha]; rfl
          have c8 : wr.cell? ⟨w.heap.size + 1, 0, none⟩ = some (.pointer none) := (cell_of_row _ _ 0 _ 29 (0, 0) hL.out).trans rfl
          have f8 : wr.frozen? ⟨w.heap.size + 1, 0, none⟩ = false := frozen_of_row _ _ 0 _ 29 hL.out
          obtain ⟨o1, o2, o3⟩ := out_box (y := .pointer a) hL.out (by omega) hL.below
          have HF := hide (And.intro o1 (And.intro (In.aside hL.out o3 hL.tree) (And.intro hL.bal (And.intro hL.srt (And.intro hL.few (And.intro o2 ha))))))
          clear hL o1 o2 o3 HL ha
          go_wp2
          refine ret_row (w.heap.size + 1) [.pointer a] rfl rfl Try.underlying29 rfl Try.info29 HF.out.1 rfl ?_
          obtain ⟨_, f1, f2, f3, f4, f5, f6⟩ := HF.out
          refine ⟨r, by rw [mv_ptr f6], f1, f2, f3, ?_, ?_, f5⟩
          · have := HLS.out; rw [HN.out.1, List.take_length] at this; exact this
          · have := HN.out.2.2.2; have := HN.out.1; omega
end Go.Proofs.Ytckkoigghkgfdaa
