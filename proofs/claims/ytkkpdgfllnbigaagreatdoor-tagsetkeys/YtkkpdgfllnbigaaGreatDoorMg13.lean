/-
  REFOK: the document's reading of a key.
  tagset and register: may these elements be (the document's May, 11).
  tagset and register: the document's May says what Of asks.
  Elements put in one by one, by rising stamps: the plain theory.
  tagset, register and queue: the document's Sorted (11): elements put in one by one.
  register: what the reference says of a map (ref12.Map 25), Three where it refuses (45), going over nothing (77).
  register: the document's Behind (44), May (22), Sorted (24).
  stamp: a stamp's key is a key, and the stamp of it is that stamp.
  register and queue: what a map of elements tells, against the document's lists.
-/
import Derived.Test.YtkkpdgfllnbigaaGreatDoorMg8
import Derived.Test.YtkkpdgfllnbigaaGreatDoorRefKey
import Derived.Deep.DeepCutAuto
import Derived.Deep.CutBlock
import Derived.Test.YtkkpdgfllnbigaaGreatDoorMg12
import Derived.Test.YtkkpdgfllnbigaaGreatDoorMg10
import Derived.Test.YtkkpdgfllnbigaaGreatDoorMg7
import Derived.Shelf.SlSortCmp.QuietGrown
import Derived.Test.YtkkpdgfllnbigaaGreatDoorMg9
namespace Go.Proofs.YtkkpdgfllnbigaaGreatDoor
open Go.RowKit Go.Shelf
set_option linter.unusedSimpArgs false

theorem exec_alloc27 {ev : Operand → Value} {T : TypeId} {w : World} :
    (execOp ev { dst := none, op := .alloc 27, type := T, pos := "", after := #[], guard := none }).run Tryz.prog w = .ok (.value (.pointer (some ⟨w.heap.size, 0, none⟩))) (w.alloc (.cells #[.int .i64 0, .int .i64 0, .string ⟨#[]⟩, .int .i64 0, .int .i64 0] 27)) := by
  unfold execOp
  go_simp
theorem setCell_size (w : World) (a : Addr) (v : Value) : (w.setCell a v).heap.size = w.heap.size := by simp [World.setCell]
theorem ba_ext {a b : ByteArray} (h : a.data.toList = b.data.toList) : a = b := by
  apply ByteArray.ext; exact Array.toList_inj.1 h
theorem ext_mid (s : ByteArray) (a i : Nat) : s.extract a i = ⟨((s.data.toList.drop a).take (i - a)).toArray⟩ := by
  apply ByteArray.ext
  apply Array.toList_inj.1
  simp [ByteArray.data_extract, List.drop_take]
set_option maxHeartbeats 1000000 in
set_option maxRecDepth 100000 in
theorem back_any (s : ByteArray) (w : World) (h8 : 8 ≤ s.size) (hs : s.size ≤ 9223372036854775807) : Calls Tryz.prog 43 #[.string s] w fun e w' => e = .returned (.int .i64 (ofHi (ints (s.data.toList.take 8)))) ∧ Below w.heap.size w w' := by
  obtain ⟨F, hF⟩ : ∃ F : Nat → Int, F = fun k => ofHi (ints (s.data.toList.take k)) := ⟨_, rfl⟩
  have hT : ∀ (k : Nat) (h : k < s.size), F (k + 1) = stepH (F k) ((s[k]'h).toNat : Int) := fun k h => by
    rw [hF]
    show ofHi (ints (s.data.toList.take (k + 1))) = stepH (ofHi (ints (s.data.toList.take k))) _
    have hl : k < s.data.toList.length := by rw [← Lib.size_eq]; exact h
    rw [List.take_succ_eq_append_getElem hl, ints_append]
    unfold ofHi
    rw [List.foldl_append]
    rfl
  have hF0 : F 0 = 0 := by rw [hF]; rfl
  have hF8 : F 8 = ofHi (ints (s.data.toList.take 8)) := by rw [hF]
  have HF := hide (And.intro hT (And.intro hF0 hF8))
  generalize ofHi (ints (s.data.toList.take 8)) = R at HF ⊢
  clear hF hT hF0 hF8
  go_enter Tryz.func43, Tryz.ntmps43
  go_wp2
  go_loopw [3, 4] (fun v3 v4 wr => ∃ k : Nat, k ≤ 8 ∧ v3 = .int .i64 (F k) ∧ v4 = .int .i64 (k : Int) ∧ wr = w) (fun _ v4 _ => (8 - intOf v4).toNat)
  case atStart => exact ⟨0, by omega, by rw [HF.out.2.1], rfl, rfl⟩
  case round =>
    obtain ⟨k, hk, rfl, rfl, rfl⟩ := hrel
    by_cases hc : k < 8
    · have z1 : (k : Int) < 8 := by omega
      obtain ⟨X, hX, x0, x1, ix⟩ := at_string s k (by omega)
      have HN := hide (HF.out.1 k (by omega))
      rw [← hX] at HN
      clear hX
      have wb : IntKind.i64.wrap X = X := by rw [IntKind.wrap_i64]; omega
      go_wp2
      exact ⟨⟨k + 1, by omega, by rw [HN.out]; rfl, by simp, trivial⟩, by simp only [intOf]; omega⟩
    · have z1 : ¬ (k : Int) < 8 := by omega
      go_wp2
      go_ret
      obtain rfl : k = 8 := by omega
      exact ⟨by rw [← HF.out.2.2]; rfl, Below.refl _ _⟩
set_option maxHeartbeats 4000000 in
set_option maxRecDepth 100000 in
theorem refOfKey_any (s : ByteArray) (w : World) (hs : s.size ≤ 9223372036854775807) : Calls Tryz.prog 26 #[.string s] w fun e w' => e = .returned (.tuple #[sv (kG s) (kR s) (kL s) (kN s) (kX s), .int .i64 (if okV s then 0 else 4)]) ∧ Below w.heap.size w w' := by
  have hb := below_new w (.cells #[.int .i64 0, .int .i64 0, .string ⟨#[]⟩, .int .i64 0, .int .i64 0] 27)
  have hnw := heap_alloc_new w (.cells #[.int .i64 0, .int .i64 0, .string ⟨#[]⟩, .int .i64 0, .int .i64 0] 27)
  by_cases h19 : s.size < 19
  · have hV : okV s = false := by unfold okV; rw [show decide (19 ≤ s.size) = false by simp; omega, Bool.false_and]
    unfold kG kR kL kN kX
    rw [hV]
    have z1 : (s.size : Int) < 19 := by omega
    obtain ⟨y0, y1, y2, y3, y4, f0, f1, f2, f3, f4⟩ := blk5 hnw
    go_enter Tryz.func26, Tryz.ntmps26
    go_wp2
    refine ret_row_tmp w.heap.size [.int .i64 0, .int .i64 0, .string ⟨#[]⟩, .int .i64 0, .int .i64 0] rfl rfl rfl Tryz.underlying27 rfl (by kernel_rfl) (t := 27) (fr := (0, 0)) ?_ rfl ?_
    · first | exact hnw | exact set5 hnw
    · first | exact ⟨rfl, hb⟩ | exact ⟨rfl, bel5 (Nat.le_refl _) hb⟩
  · obtain ⟨A, hA⟩ : ∃ A : Nat, A = s.size - 10 := ⟨_, rfl⟩
    obtain ⟨B9, hB9⟩ : ∃ B9 : Nat, B9 = s.size - 9 := ⟨_, rfl⟩
    obtain ⟨T, hT⟩ : ∃ T : Nat, T = s.size - 1 := ⟨_, rfl⟩
    have hg : ∀ W, Calls Tryz.prog 43 #[.string s] W fun e w' => e = .returned (.int .i64 (okG s)) ∧ Below W.heap.size W w' := fun W => by
      have := back_any s W (by omega) hs
      rw [show ofHi (ints (s.data.toList.take 8)) = okG s by unfold okG; rw [ext_take]] at this
      exact this
    have hxs : (s.extract B9 s.size).size = 9 := by rw [ByteArray.size_extract]; omega
    have hn : ∀ W, Calls Tryz.prog 43 #[.string (s.extract B9 s.size)] W fun e w' => e = .returned (.int .i64 (okN s)) ∧ Below W.heap.size W w' := fun W => by
      have := back_any (s.extract B9 s.size) W (by omega) (by omega)
      rw [show ofHi (ints ((s.extract B9 s.size).data.toList.take 8)) = okN s by unfold okN; rw [ext_mid, ext_mid, hB9]; simp only [List.take_take]; congr 3; omega] at this
      exact this
    obtain ⟨X8, hX8, u0, u1, ix8⟩ := at_string s 8 (by omega)
    obtain ⟨XT, hXT, v0, v1, ixT⟩ := at_string s T (by omega)
    have ix8' : ∀ W, (Instr.index 9 (.string s) (.int .i64 8)).run Tryz.prog W = .ok (.int .u8 X8) W := ix8
    rw [at_getD] at hX8 hXT
    have e1 : X8 = okR s := hX8
    have e2 : XT = okX s := by rw [hXT, hT]; rfl
    have e3 : s.extract 9 A = okL s := by rw [hA]; rfl
    have hla : (s.extract 9 A).size ≤ s.size := ext_size _ _ _ (by omega)
    have hok : okV s = (stampV (okG s) X8 (s.extract 9 A) (okN s) XT && decide (keyS (okG s) X8 (s.extract 9 A) (okN s) XT = s)) := by
      unfold okV
      rw [e1, e2, e3, show decide (19 ≤ s.size) = true by simp; omega, Bool.true_and]
    obtain ⟨PV, hPV⟩ : ∃ PV, PV = okV s := ⟨_, rfl⟩
    obtain ⟨E, hEe⟩ : ∃ E : Int, E = (if okV s then 0 else 4) := ⟨_, rfl⟩
    have hT1 : PV = true → kG s = okG s ∧ kR s = X8 ∧ kL s = s.extract 9 A ∧ kN s = okN s ∧ kX s = XT ∧ E = 0 := fun h => by
      rw [h] at hPV
      unfold kG kR kL kN kX
      rw [hEe, ← hPV, e1, e2, e3]; exact ⟨rfl, rfl, rfl, rfl, rfl, rfl⟩
    have hF1 : PV = false → kG s = 0 ∧ kR s = 0 ∧ kL s = ⟨#[]⟩ ∧ kN s = 0 ∧ kX s = 0 ∧ E = 4 := fun h => by
      rw [h] at hPV
      unfold kG kR kL kN kX
      rw [hEe, ← hPV]; exact ⟨rfl, rfl, rfl, rfl, rfl, rfl⟩
    rw [← hEe]
    rw [← hPV] at hok
    have hv : ∀ W, Calls Tryz.prog 9 #[sv (okG s) X8 (s.extract 9 A) (okN s) XT] W fun e w' => e = .returned (.bool (stampV (okG s) X8 (s.extract 9 A) (okN s) XT)) ∧ Below W.heap.size W w' := fun W => refStamp_any _ _ _ _ _ W (by omega)
    have ht : stampV (okG s) X8 (s.extract 9 A) (okN s) XT = true → ∀ W, Calls Tryz.prog 28 #[sv (okG s) X8 (s.extract 9 A) (okN s) XT] W fun e w' => e = .returned (.string (keyS (okG s) X8 (s.extract 9 A) (okN s) XT)) ∧ Below W.heap.size W w' := fun hv W => by
      have := S_bounds hv
      exact refKey_any _ _ _ _ _ W (by omega) (by omega) (by omega) (by omega) (by omega) (by omega) (by omega) (by omega) (by omega)
    generalize keyS (okG s) X8 (s.extract 9 A) (okN s) XT = TT at ht hok
    generalize stampV (okG s) X8 (s.extract 9 A) (okN s) XT = VV at hv ht hok
    generalize kG s = G' at hT1 hF1 ⊢
    generalize kR s = R' at hT1 hF1 ⊢
    generalize kL s = L' at hT1 hF1 ⊢
    generalize kN s = N' at hT1 hF1 ⊢
    generalize kX s = X' at hT1 hF1 ⊢
    clear e1 e2 e3 hPV hEe hX8 hXT
    generalize okG s = OG at hg hv ht hT1
    generalize okN s = ON at hn hv ht hT1
    have HV := hide (And.intro hok (And.intro hT1 hF1))
    clear hok hT1 hF1
    have z1 : ¬ (s.size : Int) < 19 := by omega
    have q1 : (s.size : Int) - 10 = (A : Int) := by omega
    have q2 : (s.size : Int) - 1 = (T : Int) := by omega
    have q3 : (s.size : Int) - 9 = (B9 : Int) := by omega
    have a1 : 9 ≤ A := by omega
    have a2 : A ≤ s.size := by omega
    have a3 : B9 ≤ s.size := by omega
    have a4 : (9 : Int) ≤ (A : Int) := by omega
    have a5 : (A : Int) ≤ (s.size : Int) := by omega
    have a6 : (B9 : Int) ≤ (s.size : Int) := by omega
    have wx : IntKind.i64.wrap X8 = X8 := by rw [IntKind.wrap_i64]; omega
    have wt : IntKind.i64.wrap XT = XT := by rw [IntKind.wrap_i64]; omega
    have wA : IntKind.i64.wrap (A : Int) = (A : Int) := by rw [IntKind.wrap_i64]; omega
    have wB : IntKind.i64.wrap (B9 : Int) = (B9 : Int) := by rw [IntKind.wrap_i64]; omega
    have wT : IntKind.i64.wrap (T : Int) = (T : Int) := by rw [IntKind.wrap_i64]; omega
    have hs1 : w.heap.size + 1 = (w.alloc (.cells #[.int .i64 0, .int .i64 0, .string ⟨#[]⟩, .int .i64 0, .int .i64 0] 27)).heap.size := by simp
    clear hA hB9 hT hxs hla
    go_enter Tryz.func26, Tryz.ntmps26
    go_upto_region 4 with fail
    generalize (w.alloc (.cells #[.int .i64 0, .int .i64 0, .string ⟨#[]⟩, .int .i64 0, .int .i64 0] 27)) = W0 at hb hnw hs1 ⊢
    have hk : ∀ W, Below (w.heap.size + 1) W0 W → W.heap[w.heap.size]? = some (.cells #[.int .i64 0, .int .i64 0, .string ⟨#[]⟩, .int .i64 0, .int .i64 0] 27) := fun W h => (h.block _ (by omega)).trans hnw
    have hD : Below w.heap.size w W0.drew := hb.drew
    have hQ : Below (w.heap.size + 1) W0 W0.drew := (Below.refl _ W0).drew
    have hz : w.heap.size + 1 ≤ W0.drew.heap.size := by show _ ≤ W0.heap.size; omega
    go_cut [5] (fun v5 wc => ∃ Pn, v5 = .pointer (some ⟨Pn, 0, none⟩) ∧ Hid (wc.heap[Pn]? = some (.cells #[.int .i64 OG, .int .i64 X8, .string (s.extract 9 A), .int .i64 ON, .int .i64 XT] 27 (0, 0)) ∧ Below w.heap.size w wc ∧ Below (w.heap.size + 1) W0 wc ∧ Pn < wc.heap.size))
    case first =>
      as_aux_lemma =>
        refine wp_region_held_drew (S := (fun _ => True)) (by kernel_rfl) trivial (fun hHeld => ?_)
        try dsimp only at hHeld
        generalize W0.drew = W1 at hD hQ hz ⊢
        refine take_op (i := 0) (d := 12) (OP := Op.move (Operand.tmp 0)) (T := 9) (v := ?vy1x) rfl rfl rfl rfl (by kernel_rfl) (by kernel_rfl) (by kernel_rfl) (fun _ _ _ h => h) (by rfl) ?hy1x hHeld ?ry1x
        case hy1x => (intro w' hSw; (try dsimp only at hSw); go_simp <;> with_reducible rfl)
        try simp only [Act.put, sI, sZ, sS]
        refine take_op (i := 2) (d := 14) (OP := Op.move (Operand.tmp 0)) (T := 9) (v := ?vy2x) rfl rfl rfl rfl (by kernel_rfl) (by kernel_rfl) (by kernel_rfl) (fun _ _ _ h => h) (by rfl) ?hy2x hHeld ?ry2x
        case hy2x => (intro w' hSw; (try dsimp only at hSw); go_simp <;> with_reducible rfl)
        try simp only [Act.put, sI, sZ, sS]
        refine take_op (i := 3) (d := 15) (OP := Op.index 9 (Operand.tmp 14) (Operand.const (Value.int IntKind.i64 8))) (T := 5) (v := ?vy3x) rfl rfl rfl rfl (by kernel_rfl) (by kernel_rfl) (by kernel_rfl) (fun _ _ _ h => h) (by rfl) ?hy3x hHeld ?ry3x
        case hy3x => (intro w' hSw; (try dsimp only at hSw); go_simp <;> with_reducible rfl)
        try simp only [Act.put, sI, sZ, sS]
        refine take_op (i := 4) (d := 16) (OP := Op.convert 5 3 (Operand.tmp 15)) (T := 3) (v := ?vy4x) rfl rfl rfl rfl (by kernel_rfl) (by kernel_rfl) (by kernel_rfl) (fun _ _ _ h => h) (by rfl) ?hy4x hHeld ?ry4x
        case hy4x => (intro w' hSw; (try dsimp only at hSw); go_simp <;> with_reducible rfl)
        try simp only [Act.put, sI, sZ, sS]
        refine take_op (i := 5) (d := 17) (OP := Op.move (Operand.tmp 0)) (T := 9) (v := ?vy5x) rfl rfl rfl rfl (by kernel_rfl) (by kernel_rfl) (by kernel_rfl) (fun _ _ _ h => h) (by rfl) ?hy5x hHeld ?ry5x
        case hy5x => (intro w' hSw; (try dsimp only at hSw); go_simp <;> with_reducible rfl)
        try simp only [Act.put, sI, sZ, sS]
        refine take_op (i := 6) (d := 18) (OP := Op.move (Operand.tmp 4)) (T := 3) (v := ?vy6x) rfl rfl rfl rfl (by kernel_rfl) (by kernel_rfl) (by kernel_rfl) (fun _ _ _ h => h) (by rfl) ?hy6x hHeld ?ry6x
        case hy6x => (intro w' hSw; (try dsimp only at hSw); go_simp <;> with_reducible rfl)
        try simp only [Act.put, sI, sZ, sS]
        refine take_op (i := 7) (d := 19) (OP := Op.binOp BinOp.sub 3 (Operand.tmp 18) (Operand.const (Value.int IntKind.i64 10)) 3) (T := 3) (v := ?vy7x) rfl rfl rfl rfl (by kernel_rfl) (by kernel_rfl) (by kernel_rfl) (fun _ _ _ h => h) (by rfl) ?hy7x hHeld ?ry7x
        case hy7x => (intro w' hSw; (try dsimp only at hSw); go_simp <;> with_reducible rfl)
        try simp only [Act.put, sI, sZ, sS]
        refine take_op (i := 8) (d := 20) (OP := Op.slice 9 (Operand.tmp 17) (some (Operand.const (Value.int IntKind.i64 9))) (some (Operand.tmp 19)) none) (T := 9) (v := ?vy8x) rfl rfl rfl rfl (by kernel_rfl) (by kernel_rfl) (by kernel_rfl) (fun _ _ _ h => h) (by rfl) ?hy8x hHeld ?ry8x
        case hy8x => (intro w' hSw; (try dsimp only at hSw); go_simp <;> with_reducible rfl)
        try simp only [Act.put, sI, sZ, sS]
        refine take_op (i := 9) (d := 21) (OP := Op.build 23 #[(0, Operand.tmp 16), (1, Operand.tmp 20)]) (T := 23) (v := ?vy9x) rfl rfl rfl rfl (by kernel_rfl) (by kernel_rfl) (by kernel_rfl) (fun _ _ _ h => h) (by rfl) ?hy9x hHeld ?ry9x
        case hy9x => (intro w' hSw; (try dsimp only at hSw); go_simp <;> with_reducible rfl)
        try simp only [Act.put, sI, sZ, sS]
        refine take_op (i := 10) (d := 22) (OP := Op.move (Operand.tmp 0)) (T := 9) (v := ?vy10x) rfl rfl rfl rfl (by kernel_rfl) (by kernel_rfl) (by kernel_rfl) (fun _ _ _ h => h) (by rfl) ?hy10x hHeld ?ry10x
        case hy10x => (intro w' hSw; (try dsimp only at hSw); go_simp <;> with_reducible rfl)
        try simp only [Act.put, sI, sZ, sS]
        refine take_op (i := 11) (d := 23) (OP := Op.move (Operand.tmp 4)) (T := 3) (v := ?vy11x) rfl rfl rfl rfl (by kernel_rfl) (by kernel_rfl) (by kernel_rfl) (fun _ _ _ h => h) (by rfl) ?hy11x hHeld ?ry11x
        case hy11x => (intro w' hSw; (try dsimp only at hSw); go_simp <;> with_reducible rfl)
        try simp only [Act.put, sI, sZ, sS]
        refine take_op (i := 12) (d := 24) (OP := Op.binOp BinOp.sub 3 (Operand.tmp 23) (Operand.const (Value.int IntKind.i64 9)) 3) (T := 3) (v := ?vy12x) rfl rfl rfl rfl (by kernel_rfl) (by kernel_rfl) (by kernel_rfl) (fun _ _ _ h => h) (by rfl) ?hy12x hHeld ?ry12x
        case hy12x => (intro w' hSw; (try dsimp only at hSw); go_simp <;> with_reducible rfl)
        try simp only [Act.put, sI, sZ, sS]
        refine take_op (i := 13) (d := 25) (OP := Op.slice 9 (Operand.tmp 22) (some (Operand.tmp 24)) none none) (T := 9) (v := ?vy13x) rfl rfl rfl rfl (by kernel_rfl) (by kernel_rfl) (by kernel_rfl) (fun _ _ _ h => h) (by rfl) ?hy13x hHeld ?ry13x
        case hy13x => (intro w' hSw; (try dsimp only at hSw); go_simp <;> with_reducible rfl)
        try simp only [Act.put, sI, sZ, sS]
        refine take_op (i := 16) (d := 28) (OP := Op.move (Operand.tmp 0)) (T := 9) (v := ?vy14x) rfl rfl rfl rfl (by kernel_rfl) (by kernel_rfl) (by kernel_rfl) (fun _ _ _ h => h) (by rfl) ?hy14x hHeld ?ry14x
        case hy14x => (intro w' hSw; (try dsimp only at hSw); go_simp <;> with_reducible rfl)
        try simp only [Act.put, sI, sZ, sS]
        refine take_op (i := 17) (d := 29) (OP := Op.move (Operand.tmp 4)) (T := 3) (v := ?vy15x) rfl rfl rfl rfl (by kernel_rfl) (by kernel_rfl) (by kernel_rfl) (fun _ _ _ h => h) (by rfl) ?hy15x hHeld ?ry15x
        case hy15x => (intro w' hSw; (try dsimp only at hSw); go_simp <;> with_reducible rfl)
        try simp only [Act.put, sI, sZ, sS]
        refine take_op (i := 18) (d := 30) (OP := Op.binOp BinOp.sub 3 (Operand.tmp 29) (Operand.const (Value.int IntKind.i64 1)) 3) (T := 3) (v := ?vy16x) rfl rfl rfl rfl (by kernel_rfl) (by kernel_rfl) (by kernel_rfl) (fun _ _ _ h => h) (by rfl) ?hy16x hHeld ?ry16x
        case hy16x => (intro w' hSw; (try dsimp only at hSw); go_simp <;> with_reducible rfl)
        try simp only [Act.put, sI, sZ, sS]
        refine take_op (i := 19) (d := 31) (OP := Op.index 9 (Operand.tmp 28) (Operand.tmp 30)) (T := 5) (v := ?vy17x) rfl rfl rfl rfl (by kernel_rfl) (by kernel_rfl) (by kernel_rfl) (fun _ _ _ h => h) (by rfl) ?hy17x hHeld ?ry17x
        case hy17x => (intro w' hSw; (try dsimp only at hSw); go_simp <;> with_reducible rfl)
        try simp only [Act.put, sI, sZ, sS]
        refine take_op (i := 20) (d := 32) (OP := Op.convert 5 3 (Operand.tmp 31)) (T := 3) (v := ?vy18x) rfl rfl rfl rfl (by kernel_rfl) (by kernel_rfl) (by kernel_rfl) (fun _ _ _ h => h) (by rfl) ?hy18x hHeld ?ry18x
        case hy18x => (intro w' hSw; (try dsimp only at hSw); go_simp <;> with_reducible rfl)
        try simp only [Act.put, sI, sZ, sS]
        refine call_turn_op (i := 1) (di := 13) (OPi := Op.call { callee := Callee.value (Operand.func 43), args := #[Operand.tmp 12], argTypes := #[9] }) (Ti := 2) (j := 22) (dj := 5) (OPj := Op.alloc 27) (Tj := 0) (f := 43) (args := #[.string s]) (u := .pointer (some ⟨W1.heap.size, 0, none⟩)) (w' := W1.alloc (.cells #[.int .i64 0, .int .i64 0, .string ⟨#[]⟩, .int .i64 0, .int .i64 0] 27)) rfl rfl rfl rfl rfl rfl rfl rfl (by kernel_rfl) (by rfl) (by rfl) (by go_simp) exec_alloc27 trivial ?_ ?_
        · refine (hg _).mono ?_
          rintro e v1 ⟨rfl, bb⟩
          replace hD := hD.trans (bb.mono hD.size)
          replace hQ := hQ.trans (bb.mono hz)
          replace hz := Nat.le_trans hz bb.size
          clear bb
          refine ⟨_, rfl, trivial, ?_⟩
          try simp only [Act.put, sI, sZ, sS]
          refine call_turn_op (i := 14) (di := 26) (OPi := Op.call { callee := Callee.value (Operand.func 43), args := #[Operand.tmp 25], argTypes := #[9] }) (Ti := 2) (j := 22) (dj := 5) (OPj := Op.alloc 27) (Tj := 0) (f := 43) (args := #[.string (s.extract B9 s.size)]) (u := .pointer (some ⟨v1.heap.size, 0, none⟩)) (w' := v1.alloc (.cells #[.int .i64 0, .int .i64 0, .string ⟨#[]⟩, .int .i64 0, .int .i64 0] 27)) rfl rfl rfl rfl rfl rfl rfl rfl (by kernel_rfl) (by rfl) (by rfl) (by go_simp) exec_alloc27 trivial ?_ ?_
          · refine (hn _).mono ?_
            rintro e v2 ⟨rfl, bb⟩
            replace hD := hD.trans (bb.mono hD.size)
            replace hQ := hQ.trans (bb.mono hz)
            replace hz := Nat.le_trans hz bb.size
            clear bb
            refine ⟨_, rfl, trivial, ?_⟩
            try simp only [Act.put, sI, sZ, sS]
            refine take_op (i := 15) (d := 27) (OP := Op.build 25 #[(0, Operand.tmp 21), (1, Operand.tmp 26)]) (T := 25) (v := ?vy19x) rfl rfl rfl rfl (by kernel_rfl) (by kernel_rfl) (by kernel_rfl) (fun _ _ _ h => h) (by rfl) ?hy19x hHeld ?ry19x
            case hy19x => (intro w' hSw; (try dsimp only at hSw); go_simp <;> with_reducible rfl)
            try simp only [Act.put, sI, sZ, sS]
            refine take_op (i := 21) (d := 33) (OP := Op.build 27 #[(0, Operand.tmp 13), (1, Operand.tmp 27), (2, Operand.tmp 32)]) (T := 27) (v := ?vy20x) rfl rfl rfl rfl (by kernel_rfl) (by kernel_rfl) (by kernel_rfl) (fun _ _ _ h => h) (by rfl) ?hy20x hHeld ?ry20x
            case hy20x => (intro w' hSw; (try dsimp only at hSw); go_simp <;> with_reducible rfl)
            try simp only [Act.put, sI, sZ, sS]
            refine turn_op (i := 22) (d := 5) (OP := Op.alloc 27) (T := 0) (v := .pointer (some ⟨v2.heap.size, 0, none⟩)) (w' := v2.alloc (.cells #[.int .i64 0, .int .i64 0, .string ⟨#[]⟩, .int .i64 0, .int .i64 0] 27)) rfl rfl rfl rfl (by kernel_rfl) (by rfl) (exec_alloc27) trivial ?_
            replace hHeld := trivial
            try simp only [Act.put, sI, sZ, sS]
            have mP := heap_alloc_new v2 (.cells #[.int .i64 0, .int .i64 0, .string ⟨#[]⟩, .int .i64 0, .int .i64 0] 27)
            replace hD := hD.alloc hD.size (.cells #[.int .i64 0, .int .i64 0, .string ⟨#[]⟩, .int .i64 0, .int .i64 0] 27)
            replace hQ := hQ.alloc hz (.cells #[.int .i64 0, .int .i64 0, .string ⟨#[]⟩, .int .i64 0, .int .i64 0] 27)
            have hp : w.heap.size + 1 ≤ v2.heap.size := hz
            have hpz : v2.heap.size < (v2.alloc (.cells #[.int .i64 0, .int .i64 0, .string ⟨#[]⟩, .int .i64 0, .int .i64 0] 27)).heap.size := by simp
            replace hz : w.heap.size + 1 ≤ (v2.alloc (.cells #[.int .i64 0, .int .i64 0, .string ⟨#[]⟩, .int .i64 0, .int .i64 0] 27)).heap.size := by simp; omega
            generalize v2.heap.size = Pn at mP hp hpz ⊢
            generalize v2.alloc (.cells #[.int .i64 0, .int .i64 0, .string ⟨#[]⟩, .int .i64 0, .int .i64 0] 27) = x3 at mP hD hQ hz hpz ⊢
            obtain ⟨z0, z1, z2, z3, z4, zf0, zf1, zf2, zf3, zf4⟩ := blk5 mP
            refine skip_op (i := 23) (OP := Op.store 27 (Operand.tmp 5) (Operand.tmp 33)) (T := 0) (w' := (((((x3.setCell ⟨Pn, 0, none⟩ (.int .i64 OG)).setCell ⟨Pn, 1, none⟩ (.int .i64 X8)).setCell ⟨Pn, 2, none⟩ (.string (s.extract 9 A))).setCell ⟨Pn, 3, none⟩ (.int .i64 ON)).setCell ⟨Pn, 4, none⟩ (.int .i64 XT))) rfl rfl rfl rfl (by kernel_rfl) (by rfl) (by go_simp) ⟨trivial, ?_⟩
            refine wpAnyH_done (by kernel_rfl) ?_ _
            go_wp2
            go_meet
            exact ⟨Pn, rfl, hide ⟨set5 mP, bel5 (by omega) hD, bel5 hp hQ, by simp only [setCell_size]; omega⟩⟩
          · try simp only [Act.put, sI, sZ, sS]
            have mP := heap_alloc_new v1 (.cells #[.int .i64 0, .int .i64 0, .string ⟨#[]⟩, .int .i64 0, .int .i64 0] 27)
            replace hD := hD.alloc hD.size (.cells #[.int .i64 0, .int .i64 0, .string ⟨#[]⟩, .int .i64 0, .int .i64 0] 27)
            replace hQ := hQ.alloc hz (.cells #[.int .i64 0, .int .i64 0, .string ⟨#[]⟩, .int .i64 0, .int .i64 0] 27)
            have hp : w.heap.size + 1 ≤ v1.heap.size := hz
            have hpz : v1.heap.size < (v1.alloc (.cells #[.int .i64 0, .int .i64 0, .string ⟨#[]⟩, .int .i64 0, .int .i64 0] 27)).heap.size := by simp
            replace hz : w.heap.size + 1 ≤ (v1.alloc (.cells #[.int .i64 0, .int .i64 0, .string ⟨#[]⟩, .int .i64 0, .int .i64 0] 27)).heap.size := by simp; omega
            generalize v1.heap.size = Pn at mP hp hpz ⊢
            generalize v1.alloc (.cells #[.int .i64 0, .int .i64 0, .string ⟨#[]⟩, .int .i64 0, .int .i64 0] 27) = x2 at mP hD hQ hz hpz ⊢
            refine call_op (i := 14) (d := 26) (OP := Op.call { callee := Callee.value (Operand.func 43), args := #[Operand.tmp 25], argTypes := #[9] }) (T := 2) (f := 43) (args := #[.string (s.extract B9 s.size)]) rfl rfl rfl rfl (by kernel_rfl) (by rfl) (by go_simp) ?_
            refine (hn _).mono ?_
            rintro e v5 ⟨rfl, bb⟩
            replace hD := hD.trans (bb.mono hD.size)
            replace hQ := hQ.trans (bb.mono hz)
            replace hz := Nat.le_trans hz bb.size
            replace mP := (bb.block _ hpz).trans mP
            replace hpz := Nat.lt_of_lt_of_le hpz bb.size
            clear bb
            refine ⟨_, rfl, trivial, ?_⟩
            replace hHeld := trivial
            try simp only [Act.put, sI, sZ, sS]
            refine take_op (i := 15) (d := 27) (OP := Op.build 25 #[(0, Operand.tmp 21), (1, Operand.tmp 26)]) (T := 25) (v := ?vy21x) rfl rfl rfl rfl (by kernel_rfl) (by kernel_rfl) (by kernel_rfl) (fun _ _ _ h => h) (by rfl) ?hy21x hHeld ?ry21x
            case hy21x => (intro w' hSw; (try dsimp only at hSw); go_simp <;> with_reducible rfl)
            try simp only [Act.put, sI, sZ, sS]
            refine take_op (i := 21) (d := 33) (OP := Op.build 27 #[(0, Operand.tmp 13), (1, Operand.tmp 27), (2, Operand.tmp 32)]) (T := 27) (v := ?vy22x) rfl rfl rfl rfl (by kernel_rfl) (by kernel_rfl) (by kernel_rfl) (fun _ _ _ h => h) (by rfl) ?hy22x hHeld ?ry22x
            case hy22x => (intro w' hSw; (try dsimp only at hSw); go_simp <;> with_reducible rfl)
            try simp only [Act.put, sI, sZ, sS]
            obtain ⟨z0, z1, z2, z3, z4, zf0, zf1, zf2, zf3, zf4⟩ := blk5 mP
            refine skip_op (i := 23) (OP := Op.store 27 (Operand.tmp 5) (Operand.tmp 33)) (T := 0) (w' := (((((v5.setCell ⟨Pn, 0, none⟩ (.int .i64 OG)).setCell ⟨Pn, 1, none⟩ (.int .i64 X8)).setCell ⟨Pn, 2, none⟩ (.string (s.extract 9 A))).setCell ⟨Pn, 3, none⟩ (.int .i64 ON)).setCell ⟨Pn, 4, none⟩ (.int .i64 XT))) rfl rfl rfl rfl (by kernel_rfl) (by rfl) (by go_simp) ⟨trivial, ?_⟩
            refine wpAnyH_done (by kernel_rfl) ?_ _
            go_wp2
            go_meet
            exact ⟨Pn, rfl, hide ⟨set5 mP, bel5 (by omega) hD, bel5 hp hQ, by simp only [setCell_size]; omega⟩⟩
        · try simp only [Act.put, sI, sZ, sS]
          have mP := heap_alloc_new W1 (.cells #[.int .i64 0, .int .i64 0, .string ⟨#[]⟩, .int .i64 0, .int .i64 0] 27)
          replace hD := hD.alloc hD.size (.cells #[.int .i64 0, .int .i64 0, .string ⟨#[]⟩, .int .i64 0, .int .i64 0] 27)
          replace hQ := hQ.alloc hz (.cells #[.int .i64 0, .int .i64 0, .string ⟨#[]⟩, .int .i64 0, .int .i64 0] 27)
          have hp : w.heap.size + 1 ≤ W1.heap.size := hz
          have hpz : W1.heap.size < (W1.alloc (.cells #[.int .i64 0, .int .i64 0, .string ⟨#[]⟩, .int .i64 0, .int .i64 0] 27)).heap.size := by simp
          replace hz : w.heap.size + 1 ≤ (W1.alloc (.cells #[.int .i64 0, .int .i64 0, .string ⟨#[]⟩, .int .i64 0, .int .i64 0] 27)).heap.size := by simp; omega
          generalize W1.heap.size = Pn at mP hp hpz ⊢
          generalize W1.alloc (.cells #[.int .i64 0, .int .i64 0, .string ⟨#[]⟩, .int .i64 0, .int .i64 0] 27) = x1 at mP hD hQ hz hpz ⊢
          refine call_op (i := 1) (d := 13) (OP := Op.call { callee := Callee.value (Operand.func 43), args := #[Operand.tmp 12], argTypes := #[9] }) (T := 2) (f := 43) (args := #[.string s]) rfl rfl rfl rfl (by kernel_rfl) (by rfl) (by go_simp) ?_
          refine (hg _).mono ?_
          rintro e v7 ⟨rfl, bb⟩
          replace hD := hD.trans (bb.mono hD.size)
          replace hQ := hQ.trans (bb.mono hz)
          replace hz := Nat.le_trans hz bb.size
          replace mP := (bb.block _ hpz).trans mP
          replace hpz := Nat.lt_of_lt_of_le hpz bb.size
          clear bb
          refine ⟨_, rfl, trivial, ?_⟩
          replace hHeld := trivial
          try simp only [Act.put, sI, sZ, sS]
          refine call_op (i := 14) (d := 26) (OP := Op.call { callee := Callee.value (Operand.func 43), args := #[Operand.tmp 25], argTypes := #[9] }) (T := 2) (f := 43) (args := #[.string (s.extract B9 s.size)]) rfl rfl rfl rfl (by kernel_rfl) (by rfl) (by go_simp) ?_
          refine (hn _).mono ?_
          rintro e v8 ⟨rfl, bb⟩
          replace hD := hD.trans (bb.mono hD.size)
          replace hQ := hQ.trans (bb.mono hz)
          replace hz := Nat.le_trans hz bb.size
          replace mP := (bb.block _ hpz).trans mP
          replace hpz := Nat.lt_of_lt_of_le hpz bb.size
          clear bb
          refine ⟨_, rfl, trivial, ?_⟩
          replace hHeld := trivial
          try simp only [Act.put, sI, sZ, sS]
          refine take_op (i := 15) (d := 27) (OP := Op.build 25 #[(0, Operand.tmp 21), (1, Operand.tmp 26)]) (T := 25) (v := ?vy23x) rfl rfl rfl rfl (by kernel_rfl) (by kernel_rfl) (by kernel_rfl) (fun _ _ _ h => h) (by rfl) ?hy23x hHeld ?ry23x
          case hy23x => (intro w' hSw; (try dsimp only at hSw); go_simp <;> with_reducible rfl)
          try simp only [Act.put, sI, sZ, sS]
          refine take_op (i := 21) (d := 33) (OP := Op.build 27 #[(0, Operand.tmp 13), (1, Operand.tmp 27), (2, Operand.tmp 32)]) (T := 27) (v := ?vy24x) rfl rfl rfl rfl (by kernel_rfl) (by kernel_rfl) (by kernel_rfl) (fun _ _ _ h => h) (by rfl) ?hy24x hHeld ?ry24x
          case hy24x => (intro w' hSw; (try dsimp only at hSw); go_simp <;> with_reducible rfl)
          try simp only [Act.put, sI, sZ, sS]
          obtain ⟨z0, z1, z2, z3, z4, zf0, zf1, zf2, zf3, zf4⟩ := blk5 mP
          refine skip_op (i := 23) (OP := Op.store 27 (Operand.tmp 5) (Operand.tmp 33)) (T := 0) (w' := (((((v8.setCell ⟨Pn, 0, none⟩ (.int .i64 OG)).setCell ⟨Pn, 1, none⟩ (.int .i64 X8)).setCell ⟨Pn, 2, none⟩ (.string (s.extract 9 A))).setCell ⟨Pn, 3, none⟩ (.int .i64 ON)).setCell ⟨Pn, 4, none⟩ (.int .i64 XT))) rfl rfl rfl rfl (by kernel_rfl) (by rfl) (by go_simp) ⟨trivial, ?_⟩
          refine wpAnyH_done (by kernel_rfl) ?_ _
          go_wp2
          go_meet
          exact ⟨Pn, rfl, hide ⟨set5 mP, bel5 (by omega) hD, bel5 hp hQ, by simp only [setCell_size]; omega⟩⟩
    case rest =>
      clear hD hQ hz
      obtain ⟨Pn, rfl, HP⟩ := hcut
      obtain ⟨mP, hD, hQ, hz⟩ := HP.out
      obtain ⟨y0, y1, y2, y3, y4, _, _, _, _, _⟩ := blk5 mP
      have hwz : w.heap.size + 1 ≤ wc.heap.size := by have := hQ.size; omega
      cases VV with
      | false =>
        have hpv : PV = false := by have := HV.out.1; simpa using this
        obtain ⟨e0, e1, e2, e3, e4, eE⟩ := HV.out.2.2 hpv
        have HEQ := hide (And.intro eE (And.intro e0 (And.intro e1 (And.intro e2 (And.intro e3 e4)))))
        clear eE e0 e1 e2 e3 e4
        go_wp2_with (go_at_call 9; refine (hv _).mono ?_; rintro e w5 ⟨rfl, b5⟩; have HR := hide (hk w5 (hQ.trans (b5.mono hwz))); obtain ⟨z0, z1', z2, z3, z4, zf0, zf1, zf2, zf3, zf4⟩ := blk5 HR.out; have hD5 := hD.trans (b5.mono hD.size); clear b5)
        refine ret_row_tmp w.heap.size [.int .i64 0, .int .i64 0, .string ⟨#[]⟩, .int .i64 0, .int .i64 0] rfl rfl rfl Tryz.underlying27 rfl (by kernel_rfl) (t := 27) (fr := (0, 0)) (set5 HR.out) rfl ?_
        exact ⟨by rw [HEQ.out.1, HEQ.out.2.1, HEQ.out.2.2.1, HEQ.out.2.2.2.1, HEQ.out.2.2.2.2.1, HEQ.out.2.2.2.2.2] <;> rfl, bel5 (Nat.le_refl _) hD5⟩
      | true =>
        have hty := ht rfl
        clear ht
        by_cases hTs : TT = s
        · have hpv : PV = true := by have := HV.out.1; rw [this]; simp [hTs]
          obtain ⟨e0, e1, e2, e3, e4, eE⟩ := HV.out.2.1 hpv
          have HEQ := hide (And.intro eE (And.intro e0 (And.intro e1 (And.intro e2 (And.intro e3 e4)))))
          clear eE e0 e1 e2 e3 e4
          have hTn : (TT.toList == s.toList) = true := by rw [hTs]; simp
          go_wp2_with (go_at_call 9; refine (hv _).mono ?_; rintro e w5 ⟨rfl, b5⟩; have mP5 := (b5.block _ hz).trans mP; have hD5 := hD.trans (b5.mono hD.size); have hQ5 := hQ.trans (b5.mono hwz); have hz5 := Nat.le_trans hwz b5.size; have hzP := Nat.lt_of_lt_of_le hz b5.size; clear y0 y1 y2 y3 y4 b5; obtain ⟨y0, y1, y2, y3, y4, _, _, _, _, _⟩ := blk5 mP5)
          go_wp2_with (go_at_call 28; refine (hty _).mono ?_; rintro e w6 ⟨rfl, b6⟩; have mP6 := (b6.block _ hzP).trans mP5; have HR := hide (hk w6 (hQ5.trans (b6.mono hz5))); have hD6 := hD5.trans (b6.mono hD5.size); clear y0 y1 y2 y3 y4 b6; obtain ⟨y0, y1, y2, y3, y4, _, _, _, _, _⟩ := blk5 mP6; obtain ⟨z0, z1', z2, z3, z4, zf0, zf1, zf2, zf3, zf4⟩ := blk5 HR.out)
          refine ret_row_tmp w.heap.size [.int .i64 OG, .int .i64 X8, .string (s.extract 9 A), .int .i64 ON, .int .i64 XT] rfl rfl rfl Tryz.underlying27 rfl (by kernel_rfl) (t := 27) (fr := (0, 0)) (set5 HR.out) rfl ?_
          exact ⟨by rw [HEQ.out.1, HEQ.out.2.1, HEQ.out.2.2.1, HEQ.out.2.2.2.1, HEQ.out.2.2.2.2.1, HEQ.out.2.2.2.2.2] <;> rfl, bel5 (Nat.le_refl _) hD6⟩
        · have hpv : PV = false := by have := HV.out.1; rw [this]; simp [hTs]
          obtain ⟨e0, e1, e2, e3, e4, eE⟩ := HV.out.2.2 hpv
          have HEQ := hide (And.intro eE (And.intro e0 (And.intro e1 (And.intro e2 (And.intro e3 e4)))))
          clear eE e0 e1 e2 e3 e4
          have hTn : (TT.toList == s.toList) = false := by rw [beq_eq_false_iff_ne, ByteArray.toList_eq, ByteArray.toList_eq]; exact fun h => hTs (ba_ext h)
          go_wp2_with (go_at_call 9; refine (hv _).mono ?_; rintro e w5 ⟨rfl, b5⟩; have mP5 := (b5.block _ hz).trans mP; have hD5 := hD.trans (b5.mono hD.size); have hQ5 := hQ.trans (b5.mono hwz); have hz5 := Nat.le_trans hwz b5.size; clear y0 y1 y2 y3 y4 b5; obtain ⟨y0, y1, y2, y3, y4, _, _, _, _, _⟩ := blk5 mP5)
          go_wp2_with (go_at_call 28; refine (hty _).mono ?_; rintro e w6 ⟨rfl, b6⟩; have HR := hide (hk w6 (hQ5.trans (b6.mono hz5))); have hD6 := hD5.trans (b6.mono hD5.size); clear b6; obtain ⟨z0, z1', z2, z3, z4, zf0, zf1, zf2, zf3, zf4⟩ := blk5 HR.out)
          refine ret_row_tmp w.heap.size [.int .i64 0, .int .i64 0, .string ⟨#[]⟩, .int .i64 0, .int .i64 0] rfl rfl rfl Tryz.underlying27 rfl (by kernel_rfl) (t := 27) (fr := (0, 0)) (set5 HR.out) rfl ?_
          exact ⟨by rw [HEQ.out.1, HEQ.out.2.1, HEQ.out.2.2.1, HEQ.out.2.2.2.1, HEQ.out.2.2.2.2.1, HEQ.out.2.2.2.2.2] <;> rfl, bel5 (Nat.le_refl _) hD6⟩
end Go.Proofs.YtkkpdgfllnbigaaGreatDoor
namespace Go.Proofs.YtkkpdgfllnbigaaGreatDoor
open Go.RowKit Go.Shelf
set_option linter.unusedSimpArgs false
attribute [local go_sem] Oper.semAt_some

end Go.Proofs.YtkkpdgfllnbigaaGreatDoor
namespace Go.Proofs.YtkkpdgfllnbigaaGreatDoor
open Go.RowKit Go.Shelf

end Go.Proofs.YtkkpdgfllnbigaaGreatDoor
namespace Go.Proofs.YtkkpdgfllnbigaaGreatDoor
open Go.RowKit Go.Shelf

def UpS (l : List El) : Prop := l.Pairwise (fun a b => cmpT a.1 b.1 = -1)
end Go.Proofs.YtkkpdgfllnbigaaGreatDoor
namespace Go.Proofs.YtkkpdgfllnbigaaGreatDoor
open Go.RowKit Go.Shelf Go.Sort
set_option linter.unusedSimpArgs false
attribute [local go_sem] Oper.semAt_some

end Go.Proofs.YtkkpdgfllnbigaaGreatDoor
namespace Go.Proofs.YtkkpdgfllnbigaaGreatDoor
open Go.RowKit Go.Shelf
set_option linter.unusedSimpArgs false
attribute [local go_sem] Oper.semAt_some

end Go.Proofs.YtkkpdgfllnbigaaGreatDoor
namespace Go.Proofs.YtkkpdgfllnbigaaGreatDoor
open Go.RowKit Go.Shelf
set_option linter.unusedSimpArgs false
attribute [local go_sem] Oper.semAt_some

end Go.Proofs.YtkkpdgfllnbigaaGreatDoor
namespace Go.Proofs.YtkkpdgfllnbigaaGreatDoor
open Go.RowKit Go.Shelf
set_option linter.unusedSimpArgs false

theorem ofInt_nat (n : Nat) (h : n < 18446744073709551616) : (BitVec.ofInt 64 (n : Int)).toNat = n := by
  rw [BitVec.ofInt_natCast, BitVec.toNat_ofNat]
  exact Nat.mod_eq_of_lt (by omega)
theorem stepH_nat (n b : Nat) (hn : n < 36028797018963968) (hb : b < 256) : stepH (n : Int) (b : Int) = ((n * 256 + b : Nat) : Int) := by
  unfold stepH
  have hw : wrap64 ((n : Int) * 256) = ((n * 256 : Nat) : Int) := by unfold wrap64; omega
  rw [hw]
  show IntKind.i64.wrap ((BitVec.ofInt 64 ((n * 256 : Nat) : Int) ||| BitVec.ofInt 64 (b : Int)).toNat : Int) = _
  rw [BitVec.toNat_or, ofInt_nat _ (by omega), ofInt_nat _ (by omega)]
  have : n * 256 ||| b = n * 256 + b := by
    have := Nat.shiftLeft_add_eq_or_of_lt (i := 8) (b := b) (by omega) n
    rw [Nat.shiftLeft_eq] at this
    exact this.symm
  rw [this, IntKind.wrap_i64]
  omega
theorem ofHi_low : ∀ (k n a : Nat), a * 256 ^ k + n < 9223372036854775808 → n < 256 ^ k → (low n k).foldl stepH (a : Int) = ((a * 256 ^ k + n : Nat) : Int)
  | 0, n, a, _, h => by
    simp at h
    subst h
    simp [low]
  | k + 1, n, a, ha, h => by
    have hp : 0 < 256 ^ k := Nat.pow_pos (by omega)
    have hd : n / 256 ^ k < 256 := by rw [Nat.div_lt_iff_lt_mul hp]; rw [Nat.pow_succ] at h; omega
    have hdm := Nat.div_add_mod n (256 ^ k)
    have hm := Nat.mod_lt n hp
    rw [low, List.foldl_cons, ← low_mod n k k (Nat.le_refl _), Nat.mod_eq_of_lt hd]
    have e : a * 256 ^ (k + 1) + n = (a * 256 + n / 256 ^ k) * 256 ^ k + n % 256 ^ k := by
      rw [Nat.pow_succ, Nat.add_mul, Nat.mul_assoc, Nat.mul_comm 256, Nat.mul_comm (n / 256 ^ k)]
      omega
    have hle : a * 256 + n / 256 ^ k ≤ (a * 256 + n / 256 ^ k) * 256 ^ k := Nat.le_mul_of_pos_right _ hp
    rw [e] at ha ⊢
    have hsm : a < 36028797018963968 := by
      generalize (a * 256 + n / 256 ^ k) * 256 ^ k = M at ha hle
      generalize n / 256 ^ k = d at hle
      generalize n % 256 ^ k = m at ha
      clear e hdm hm hp hd h
      omega
    rw [stepH_nat a _ hsm hd]
    exact ofHi_low k _ _ ha hm
theorem ofHi_U (n : Nat) (h : n < 9223372036854775808) : ofHi (ints (U (low n 8))) = (n : Int) := by
  have : ints (U (low n 8)) = low n 8 := str_back (low_u8 n 8)
  rw [this]
  have := ofHi_low 8 n 0 (by omega) (by omega)
  simpa [ofHi] using this
theorem U_len (l : List Int) : (U l).length = l.length := by unfold U; rw [← Lib.size_eq, strOfNums_size]
theorem size_list (s : ByteArray) : s.size = s.data.toList.length := by rw [← Lib.size_eq]
theorem U_at (a : Int) (h0 : 0 ≤ a) (h1 : a < 256) : ((UInt8.ofNat a.toNat).toNat : Int) = a := by
  rw [UInt8.toNat_ofNat', Nat.mod_eq_of_lt (by omega)]
  omega
theorem key_back {g r n x : Int} {l : ByteArray} (h : stampV g r l n x = true) : 19 ≤ (keyS g r l n x).size ∧ okG (keyS g r l n x) = g ∧ okR (keyS g r l n x) = r ∧ okL (keyS g r l n x) = l ∧ okN (keyS g r l n x) = n ∧ okX (keyS g r l n x) = x := by
  obtain ⟨g0, g1, hn, x0, x1⟩ := stamp_parts h
  obtain ⟨hb, n0, n1⟩ := name_parts hn
  obtain ⟨r0, r1, hl⟩ := branch_parts hb
  have hk := keyS_list g r l n x
  have hA : (U (low g.toNat 8)).length = 8 := by rw [U_len, low_length]
  have hN : (U (low n.toNat 8)).length = 8 := by rw [U_len, low_length]
  have hl1 : 1 ≤ l.size := by
    unfold labelB at hl
    rw [size_list]
    simp only [Bool.and_eq_true, decide_eq_true_eq] at hl
    omega
  have hsz : (keyS g r l n x).size = l.size + 19 := by
    rw [size_list, hk, size_list]
    simp only [List.length_append, List.length_cons, U_len, low_length, List.length_nil]
    omega
  have hls := size_list l
  refine ⟨by omega, ?_, ?_, ?_, ?_, ?_⟩
  · unfold okG
    rw [ext_mid]
    simp only [hk, List.drop_zero, Nat.sub_zero]
    rw [List.take_left' hA, ofHi_U _ (by omega)]
    omega
  · unfold okR
    rw [hk, U_one]
    have : (U (low g.toNat 8) ++ ([UInt8.ofNat r.toNat] ++ (l.data.toList ++ 0 :: (U (low n.toNat 8) ++ U [x])))).getD 8 0 = UInt8.ofNat r.toNat := by
      rw [List.getD_eq_getElem?_getD, List.getElem?_append_right (by omega), hA]
      rfl
    rw [this]
    exact U_at r r0 (by omega)
  · unfold okL
    rw [ext_mid, hk, hsz]
    apply ba_ext
    have e1 : (U (low g.toNat 8) ++ (U [r] ++ (l.data.toList ++ 0 :: (U (low n.toNat 8) ++ U [x])))).drop 9 = l.data.toList ++ 0 :: (U (low n.toNat 8) ++ U [x]) := by
      rw [← List.append_assoc]
      exact List.drop_left' (by rw [List.length_append, hA, U_len]; rfl)
    rw [e1]
    show List.take _ _ = _
    rw [show l.size + 19 - 10 - 9 = l.size by omega]
    exact List.take_left' hls.symm
  · unfold okN
    rw [ext_mid, hk, hsz]
    have e1 : (U (low g.toNat 8) ++ (U [r] ++ (l.data.toList ++ 0 :: (U (low n.toNat 8) ++ U [x])))) = (U (low g.toNat 8) ++ U [r] ++ l.data.toList ++ [0]) ++ (U (low n.toNat 8) ++ U [x]) := by simp
    rw [e1, List.drop_left' (by simp only [List.length_append, U_len, low_length, List.length_cons, List.length_nil]; omega)]
    show ofHi (ints (List.take _ _)) = _
    rw [List.take_left' (by rw [hN]; omega), ofHi_U _ (by omega)]
    omega
  · unfold okX
    have hx1 : U [x] = [UInt8.ofNat x.toNat] := U_one x
    rw [hk, hsz, hx1]
    have e1 : (U (low g.toNat 8) ++ (U [r] ++ (l.data.toList ++ 0 :: (U (low n.toNat 8) ++ [UInt8.ofNat x.toNat])))) = (U (low g.toNat 8) ++ U [r] ++ l.data.toList ++ [0] ++ U (low n.toNat 8)) ++ [UInt8.ofNat x.toNat] := by simp
    rw [e1, List.getD_eq_getElem?_getD, List.getElem?_append_right (by simp only [List.length_append, U_len, low_length, List.length_cons, List.length_nil]; omega)]
    have : l.size + 19 - 1 - (U (low g.toNat 8) ++ U [r] ++ l.data.toList ++ [0] ++ U (low n.toNat 8)).length = 0 := by simp only [List.length_append, U_len, low_length, List.length_cons, List.length_nil]; omega
    rw [this]
    exact U_at x x0 (by omega)
theorem okV_key {s : St} (h : stV s = true) : okV (keyT s) = true := by
  obtain ⟨g, r, l, n, x⟩ := s
  have h' : stampV g r l n x = true := h
  obtain ⟨k0, k1, k2, k3, k4, k5⟩ := key_back h'
  show okV (keyS g r l n x) = true
  unfold okV
  rw [k1, k2, k3, k4, k5, h']
  simp [k0]
theorem ofT_key {s : St} (h : stV s = true) : ofT (keyT s) = s := by
  have hv := okV_key h
  obtain ⟨g, r, l, n, x⟩ := s
  have h' : stampV g r l n x = true := h
  obtain ⟨k0, k1, k2, k3, k4, k5⟩ := key_back h'
  have hv' : okV (keyS g r l n x) = true := hv
  show (kG (keyS g r l n x), kR (keyS g r l n x), kL (keyS g r l n x), kN (keyS g r l n x), kX (keyS g r l n x)) = _
  unfold kG kR kL kN kX
  simp only [hv', if_true, k1, k2, k3, k4, k5]
end Go.Proofs.YtkkpdgfllnbigaaGreatDoor
namespace Go.Proofs.YtkkpdgfllnbigaaGreatDoor
open Go.RowKit Go.Shelf

theorem okV_of {k : ByteArray} (h : okV k = true) : keyT (ofT k) = k ∧ stV (ofT k) = true := by
  have h' := h
  unfold okV at h'
  simp only [Bool.and_eq_true, decide_eq_true_eq] at h'
  have e : ofT k = (okG k, okR k, okL k, okN k, okX k) := by
    unfold ofT kG kR kL kN kX
    simp only [h, if_true]
  rw [e]
  exact ⟨h'.2.2, h'.2.1⟩
theorem cmp_keys {s t : St} (hs : stV s = true) (ht : stV t = true) : Pm.cmpB (keyT s) (keyT t) = cmpT s t := by
  obtain ⟨g, r, l, n, x⟩ := s
  obtain ⟨g', r', l', n', x'⟩ := t
  have ho := key_order hs ht
  rw [cmpS_eq] at ho
  exact ho
end Go.Proofs.YtkkpdgfllnbigaaGreatDoor
