/-
  REFOK: the document's reading of a key.
  tagset and register: may these elements be (the document's May, 11).
  tagset and register: the document's May says what Of asks.
  Elements put in one by one, by rising stamps: the plain theory.
-/
import Derived.Test.YtkkpdgfllnbigaaGreatMg9
import Derived.Test.YtkkpdgfllnbigaaGreatMg14
import Derived.Deep.DeepCutAuto
import Derived.Deep.CutBlock
import Derived.Test.YtkkpdgfllnbigaaGreatMg11
import Derived.Test.YtkkpdgfllnbigaaGreatMg7
namespace Go.Proofs.YtkkpdgfllnbigaaGreat
open Go.RowKit Go.Shelf
set_option linter.unusedSimpArgs false

theorem exec_alloc27 {ev : Operand → Value} {T : TypeId} {w : World} :
    (execOp ev { dst := none, op := .alloc 43, type := T, pos := "", after := #[], guard := none }).run Tryz.prog w = .ok (.value (.pointer (some ⟨w.heap.size, 0, none⟩))) (w.alloc (.cells #[.int .i64 0, .int .i64 0, .string ⟨#[]⟩, .int .i64 0, .int .i64 0] 43)) := by
  unfold execOp
  go_simp
theorem setCell_size (w : World) (a : Addr) (v : Value) : (w.setCell a v).heap.size = w.heap.size := by simp [World.setCell]
theorem ba_ext {a b : ByteArray} (h : a.data.toList = b.data.toList) : a = b := by
  apply ByteArray.ext; exact Array.toList_inj.1 h
theorem ext_mid (s : ByteArray) (a i : Nat) : s.extract a i = ⟨((s.data.toList.drop a).take (i - a)).toArray⟩ := by
  apply ByteArray.ext
  apply Array.toList_inj.1
  simp [ByteArray.data_extract, List.drop_take]
set_option maxHeartbeats 1000000 in
set_option maxRecDepth 100000 in
theorem back_any (s : ByteArray) (w : World) (h8 : 8 ≤ s.size) (hs : s.size ≤ 9223372036854775807) : Calls Tryz.prog 175 #[.string s] w fun e w' => e = .returned (.int .i64 (ofHi (ints (s.data.toList.take 8)))) ∧ Below w.heap.size w w' := by
  obtain ⟨F, hF⟩ : ∃ F : Nat → Int, F = fun k => ofHi (ints (s.data.toList.take k)) := ⟨_, rfl⟩
  have hT : ∀ (k : Nat) (h : k < s.size), F (k + 1) = stepH (F k) ((s[k]'h).toNat : Int) := fun k h => by
    rw [hF]
    show ofHi (ints (s.data.toList.take (k + 1))) = stepH (ofHi (ints (s.data.toList.take k))) _
    have hl : k < s.data.toList.length := by rw [← Lib.size_eq]; exact h
    rw [List.take_succ_eq_append_getElem hl, ints_append]
    unfold ofHi
    rw [List.foldl_append]
    rfl
  have hF0 : F 0 = 0 := by rw [hF]; rfl
  have hF8 : F 8 = ofHi (ints (s.data.toList.take 8)) := by rw [hF]
  have HF := hide (And.intro hT (And.intro hF0 hF8))
  generalize ofHi (ints (s.data.toList.take 8)) = R at HF ⊢
  clear hF hT hF0 hF8
  go_enter Tryz.func175, Tryz.ntmps175
  go_wp2
  go_loopw [3, 4] (fun v3 v4 wr => ∃ k : Nat, k ≤ 8 ∧ v3 = .int .i64 (F k) ∧ v4 = .int .i64 (k : Int) ∧ wr = w) (fun _ v4 _ => (8 - intOf v4).toNat)
  case atStart => exact ⟨0, by omega, by rw [HF.out.2.1], rfl, rfl⟩
  case round =>
    obtain ⟨k, hk, rfl, rfl, rfl⟩ := hrel
    by_cases hc : k < 8
    · have z1 : (k : Int) < 8 := by omega
      obtain ⟨X, hX, x0, x1, ix⟩ := at_string s k (by omega)
      have HN := hide (HF.out.1 k (by omega))
      rw [← hX] at HN
      clear hX
      have wb : IntKind.i64.wrap X = X := by rw [IntKind.wrap_i64]; omega
      go_wp2
      exact ⟨⟨k + 1, by omega, by rw [HN.out]; rfl, by simp, trivial⟩, by simp only [intOf]; omega⟩
    · have z1 : ¬ (k : Int) < 8 := by omega
      go_wp2
      go_ret
      obtain rfl : k = 8 := by omega
      exact ⟨by rw [← HF.out.2.2]; rfl, Below.refl _ _⟩
set_option maxHeartbeats 4000000 in
set_option maxRecDepth 100000 in
theorem refOfKey_any (s : ByteArray) (w : World) (hs : s.size ≤ 9223372036854775807) : Calls Tryz.prog 121 #[.string s] w fun e w' => e = .returned (.tuple #[sv (kG s) (kR s) (kL s) (kN s) (kX s), .int .i64 (if okV s then 0 else 4)]) ∧ Below w.heap.size w w' := by
  have hb := below_new w (.cells #[.int .i64 0, .int .i64 0, .string ⟨#[]⟩, .int .i64 0, .int .i64 0] 43)
  have hnw := heap_alloc_new w (.cells #[.int .i64 0, .int .i64 0, .string ⟨#[]⟩, .int .i64 0, .int .i64 0] 43)
  by_cases h19 : s.size < 19
  · have hV : okV s = false := by unfold okV; rw [show decide (19 ≤ s.size) = false by simp; omega, Bool.false_and]
    unfold kG kR kL kN kX
    rw [hV]
    have z1 : (s.size : Int) < 19 := by omega
    obtain ⟨y0, y1, y2, y3, y4, f0, f1, f2, f3, f4⟩ := blk5 hnw
    go_enter Tryz.func121, Tryz.ntmps121
    go_wp2
    refine ret_row_tmp w.heap.size [.int .i64 0, .int .i64 0, .string ⟨#[]⟩, .int .i64 0, .int .i64 0] rfl rfl rfl Tryz.underlying43 rfl (by kernel_rfl) (t := 43) (fr := (0, 0)) ?_ rfl ?_
    · first | exact hnw | exact set5 hnw
    · first | exact ⟨rfl, hb⟩ | exact ⟨rfl, bel5 (Nat.le_refl _) hb⟩
  · obtain ⟨A, hA⟩ : ∃ A : Nat, A = s.size - 10 := ⟨_, rfl⟩
    obtain ⟨B9, hB9⟩ : ∃ B9 : Nat, B9 = s.size - 9 := ⟨_, rfl⟩
    obtain ⟨T, hT⟩ : ∃ T : Nat, T = s.size - 1 := ⟨_, rfl⟩
    have hg : ∀ W, Calls Tryz.prog 175 #[.string s] W fun e w' => e = .returned (.int .i64 (okG s)) ∧ Below W.heap.size W w' := fun W => by
      have := back_any s W (by omega) hs
      rw [show ofHi (ints (s.data.toList.take 8)) = okG s by unfold okG; rw [ext_take]] at this
      exact this
    have hxs : (s.extract B9 s.size).size = 9 := by rw [ByteArray.size_extract]; omega
    have hn : ∀ W, Calls Tryz.prog 175 #[.string (s.extract B9 s.size)] W fun e w' => e = .returned (.int .i64 (okN s)) ∧ Below W.heap.size W w' := fun W => by
      have := back_any (s.extract B9 s.size) W (by omega) (by omega)
      rw [show ofHi (ints ((s.extract B9 s.size).data.toList.take 8)) = okN s by unfold okN; rw [ext_mid, ext_mid, hB9]; simp only [List.take_take]; congr 3; omega] at this
      exact this
    obtain ⟨X8, hX8, u0, u1, ix8⟩ := at_string s 8 (by omega)
    obtain ⟨XT, hXT, v0, v1, ixT⟩ := at_string s T (by omega)
    have ix8' : ∀ W, (Instr.index 9 (.string s) (.int .i64 8)).run Tryz.prog W = .ok (.int .u8 X8) W := ix8
    rw [at_getD] at hX8 hXT
    have e1 : X8 = okR s := hX8
    have e2 : XT = okX s := by rw [hXT, hT]; rfl
    have e3 : s.extract 9 A = okL s := by rw [hA]; rfl
    have hla : (s.extract 9 A).size ≤ s.size := ext_size _ _ _ (by omega)
    have hok : okV s = (stampV (okG s) X8 (s.extract 9 A) (okN s) XT && decide (keyS (okG s) X8 (s.extract 9 A) (okN s) XT = s)) := by
      unfold okV
      rw [e1, e2, e3, show decide (19 ≤ s.size) = true by simp; omega, Bool.true_and]
    obtain ⟨PV, hPV⟩ : ∃ PV, PV = okV s := ⟨_, rfl⟩
    obtain ⟨E, hEe⟩ : ∃ E : Int, E = (if okV s then 0 else 4) := ⟨_, rfl⟩
    have hT1 : PV = true → kG s = okG s ∧ kR s = X8 ∧ kL s = s.extract 9 A ∧ kN s = okN s ∧ kX s = XT ∧ E = 0 := fun h => by
      rw [h] at hPV
      unfold kG kR kL kN kX
      rw [hEe, ← hPV, e1, e2, e3]; exact ⟨rfl, rfl, rfl, rfl, rfl, rfl⟩
    have hF1 : PV = false → kG s = 0 ∧ kR s = 0 ∧ kL s = ⟨#[]⟩ ∧ kN s = 0 ∧ kX s = 0 ∧ E = 4 := fun h => by
      rw [h] at hPV
      unfold kG kR kL kN kX
      rw [hEe, ← hPV]; exact ⟨rfl, rfl, rfl, rfl, rfl, rfl⟩
    rw [← hEe]
    rw [← hPV] at hok
    have hv : ∀ W, Calls Tryz.prog 112 #[sv (okG s) X8 (s.extract 9 A) (okN s) XT] W fun e w' => e = .returned (.bool (stampV (okG s) X8 (s.extract 9 A) (okN s) XT)) ∧ Below W.heap.size W w' := fun W => refStamp_any _ _ _ _ _ W (by omega)
    have ht : stampV (okG s) X8 (s.extract 9 A) (okN s) XT = true → ∀ W, Calls Tryz.prog 176 #[sv (okG s) X8 (s.extract 9 A) (okN s) XT] W fun e w' => e = .returned (.string (keyS (okG s) X8 (s.extract 9 A) (okN s) XT)) ∧ Below W.heap.size W w' := fun hv W => by
      have := S_bounds hv
      exact refKey_any _ _ _ _ _ W (by omega) (by omega) (by omega) (by omega) (by omega) (by omega) (by omega) (by omega) (by omega)
    generalize keyS (okG s) X8 (s.extract 9 A) (okN s) XT = TT at ht hok
    generalize stampV (okG s) X8 (s.extract 9 A) (okN s) XT = VV at hv ht hok
    generalize kG s = G' at hT1 hF1 ⊢
    generalize kR s = R' at hT1 hF1 ⊢
    generalize kL s = L' at hT1 hF1 ⊢
    generalize kN s = N' at hT1 hF1 ⊢
    generalize kX s = X' at hT1 hF1 ⊢
    clear e1 e2 e3 hPV hEe hX8 hXT
    generalize okG s = OG at hg hv ht hT1
    generalize okN s = ON at hn hv ht hT1
    have HV := hide (And.intro hok (And.intro hT1 hF1))
    clear hok hT1 hF1
    have z1 : ¬ (s.size : Int) < 19 := by omega
    have q1 : (s.size : Int) - 10 = (A : Int) := by omega
    have q2 : (s.size : Int) - 1 = (T : Int) := by omega
    have q3 : (s.size : Int) - 9 = (B9 : Int) := by omega
    have a1 : 9 ≤ A := by omega
    have a2 : A ≤ s.size := by omega
    have a3 : B9 ≤ s.size := by omega
    have a4 : (9 : Int) ≤ (A : Int) := by omega
    have a5 : (A : Int) ≤ (s.size : Int) := by omega
    have a6 : (B9 : Int) ≤ (s.size : Int) := by omega
    have wx : IntKind.i64.wrap X8 = X8 := by rw [IntKind.wrap_i64]; omega
    have wt : IntKind.i64.wrap XT = XT := by rw [IntKind.wrap_i64]; omega
    have wA : IntKind.i64.wrap (A : Int) = (A : Int) := by rw [IntKind.wrap_i64]; omega
    have wB : IntKind.i64.wrap (B9 : Int) = (B9 : Int) := by rw [IntKind.wrap_i64]; omega
    have wT : IntKind.i64.wrap (T : Int) = (T : Int) := by rw [IntKind.wrap_i64]; omega
    have hs1 : w.heap.size + 1 = (w.alloc (.cells #[.int .i64 0, .int .i64 0, .string ⟨#[]⟩, .int .i64 0, .int .i64 0] 43)).heap.size := by simp
    clear hA hB9 hT hxs hla
    go_enter Tryz.func121, Tryz.ntmps121
    go_upto_region 4 with fail
    generalize (w.alloc (.cells #[.int .i64 0, .int .i64 0, .string ⟨#[]⟩, .int .i64 0, .int .i64 0] 43)) = W0 at hb hnw hs1 ⊢
    have hk : ∀ W, Below (w.heap.size + 1) W0 W → W.heap[w.heap.size]? = some (.cells #[.int .i64 0, .int .i64 0, .string ⟨#[]⟩, .int .i64 0, .int .i64 0] 43) := fun W h => (h.block _ (by omega)).trans hnw
    have hD : Below w.heap.size w W0.drew := hb.drew
    have hQ : Below (w.heap.size + 1) W0 W0.drew := (Below.refl _ W0).drew
    have hz : w.heap.size + 1 ≤ W0.drew.heap.size := by show _ ≤ W0.heap.size; omega
    go_cut [5] (fun v5 wc => ∃ Pn, v5 = .pointer (some ⟨Pn, 0, none⟩) ∧ Hid (wc.heap[Pn]? = some (.cells #[.int .i64 OG, .int .i64 X8, .string (s.extract 9 A), .int .i64 ON, .int .i64 XT] 43 (0, 0)) ∧ Below w.heap.size w wc ∧ Below (w.heap.size + 1) W0 wc ∧ Pn < wc.heap.size))
    case first =>
      as_aux_lemma =>
        refine wp_region_held_drew (S := (fun _ => True)) (by kernel_rfl) trivial (fun hHeld => ?_)
        try dsimp only at hHeld
        generalize W0.drew = W1 at hD hQ hz ⊢
        refine take_op (i := 0) (d := 12) (OP := Op.move (Operand.tmp 0)) (T := 9) (v := ?vy1x) rfl rfl rfl rfl (by kernel_rfl) (by kernel_rfl) (by kernel_rfl) (fun _ _ _ h => h) (by rfl) ?hy1x hHeld ?ry1x
        case hy1x => (intro w' hSw; (try dsimp only at hSw); go_simp <;> with_reducible rfl)
        try simp only [Act.put, sI, sZ, sS]
        refine take_op (i := 2) (d := 14) (OP := Op.move (Operand.tmp 0)) (T := 9) (v := ?vy2x) rfl rfl rfl rfl (by kernel_rfl) (by kernel_rfl) (by kernel_rfl) (fun _ _ _ h => h) (by rfl) ?hy2x hHeld ?ry2x
        case hy2x => (intro w' hSw; (try dsimp only at hSw); go_simp <;> with_reducible rfl)
        try simp only [Act.put, sI, sZ, sS]
        refine take_op (i := 3) (d := 15) (OP := Op.index 9 (Operand.tmp 14) (Operand.const (Value.int IntKind.i64 8))) (T := 5) (v := ?vy3x) rfl rfl rfl rfl (by kernel_rfl) (by kernel_rfl) (by kernel_rfl) (fun _ _ _ h => h) (by rfl) ?hy3x hHeld ?ry3x
        case hy3x => (intro w' hSw; (try dsimp only at hSw); go_simp <;> with_reducible rfl)
        try simp only [Act.put, sI, sZ, sS]
        refine take_op (i := 4) (d := 16) (OP := Op.convert 5 3 (Operand.tmp 15)) (T := 3) (v := ?vy4x) rfl rfl rfl rfl (by kernel_rfl) (by kernel_rfl) (by kernel_rfl) (fun _ _ _ h => h) (by rfl) ?hy4x hHeld ?ry4x
        case hy4x => (intro w' hSw; (try dsimp only at hSw); go_simp <;> with_reducible rfl)
        try simp only [Act.put, sI, sZ, sS]
        refine take_op (i := 5) (d := 17) (OP := Op.move (Operand.tmp 0)) (T := 9) (v := ?vy5x) rfl rfl rfl rfl (by kernel_rfl) (by kernel_rfl) (by kernel_rfl) (fun _ _ _ h => h) (by rfl) ?hy5x hHeld ?ry5x
        case hy5x => (intro w' hSw; (try dsimp only at hSw); go_simp <;> with_reducible rfl)
        try simp only [Act.put, sI, sZ, sS]
        refine take_op (i := 6) (d := 18) (OP := Op.move (Operand.tmp 4)) (T := 3) (v := ?vy6x) rfl rfl rfl rfl (by kernel_rfl) (by kernel_rfl) (by kernel_rfl) (fun _ _ _ h => h) (by rfl) ?hy6x hHeld ?ry6x
        case hy6x => (intro w' hSw; (try dsimp only at hSw); go_simp <;> with_reducible rfl)
        try simp only [Act.put, sI, sZ, sS]
        refine take_op (i := 7) (d := 19) (OP := Op.binOp BinOp.sub 3 (Operand.tmp 18) (Operand.const (Value.int IntKind.i64 10)) 3) (T := 3) (v := ?vy7x) rfl rfl rfl rfl (by kernel_rfl) (by kernel_rfl) (by kernel_rfl) (fun _ _ _ h => h) (by rfl) ?hy7x hHeld ?ry7x
        case hy7x => (intro w' hSw; (try dsimp only at hSw); go_simp <;> with_reducible rfl)
        try simp only [Act.put, sI, sZ, sS]
        refine take_op (i := 8) (d := 20) (OP := Op.slice 9 (Operand.tmp 17) (some (Operand.const (Value.int IntKind.i64 9))) (some (Operand.tmp 19)) none) (T := 9) (v := ?vy8x) rfl rfl rfl rfl (by kernel_rfl) (by kernel_rfl) (by kernel_rfl) (fun _ _ _ h => h) (by rfl) ?hy8x hHeld ?ry8x
        case hy8x => (intro w' hSw; (try dsimp only at hSw); go_simp <;> with_reducible rfl)
        try simp only [Act.put, sI, sZ, sS]
        refine take_op (i := 9) (d := 21) (OP := Op.build 39 #[(0, Operand.tmp 16), (1, Operand.tmp 20)]) (T := 39) (v := ?vy9x) rfl rfl rfl rfl (by kernel_rfl) (by kernel_rfl) (by kernel_rfl) (fun _ _ _ h => h) (by rfl) ?hy9x hHeld ?ry9x
        case hy9x => (intro w' hSw; (try dsimp only at hSw); go_simp <;> with_reducible rfl)
        try simp only [Act.put, sI, sZ, sS]
        refine take_op (i := 10) (d := 22) (OP := Op.move (Operand.tmp 0)) (T := 9) (v := ?vy10x) rfl rfl rfl rfl (by kernel_rfl) (by kernel_rfl) (by kernel_rfl) (fun _ _ _ h => h) (by rfl) ?hy10x hHeld ?ry10x
        case hy10x => (intro w' hSw; (try dsimp only at hSw); go_simp <;> with_reducible rfl)
        try simp only [Act.put, sI, sZ, sS]
        refine take_op (i := 11) (d := 23) (OP := Op.move (Operand.tmp 4)) (T := 3) (v := ?vy11x) rfl rfl rfl rfl (by kernel_rfl) (by kernel_rfl) (by kernel_rfl) (fun _ _ _ h => h) (by rfl) ?hy11x hHeld ?ry11x
        case hy11x => (intro w' hSw; (try dsimp only at hSw); go_simp <;> with_reducible rfl)
        try simp only [Act.put, sI, sZ, sS]
        refine take_op (i := 12) (d := 24) (OP := Op.binOp BinOp.sub 3 (Operand.tmp 23) (Operand.const (Value.int IntKind.i64 9)) 3) (T := 3) (v := ?vy12x) rfl rfl rfl rfl (by kernel_rfl) (by kernel_rfl) (by kernel_rfl) (fun _ _ _ h => h) (by rfl) ?hy12x hHeld ?ry12x
        case hy12x => (intro w' hSw; (try dsimp only at hSw); go_simp <;> with_reducible rfl)
        try simp only [Act.put, sI, sZ, sS]
        refine take_op (i := 13) (d := 25) (OP := Op.slice 9 (Operand.tmp 22) (some (Operand.tmp 24)) none none) (T := 9) (v := ?vy13x) rfl rfl rfl rfl (by kernel_rfl) (by kernel_rfl) (by kernel_rfl) (fun _ _ _ h => h) (by rfl) ?hy13x hHeld ?ry13x
        case hy13x => (intro w' hSw; (try dsimp only at hSw); go_simp <;> with_reducible rfl)
        try simp only [Act.put, sI, sZ, sS]
        refine take_op (i := 16) (d := 28) (OP := Op.move (Operand.tmp 0)) (T := 9) (v := ?vy14x) rfl rfl rfl rfl (by kernel_rfl) (by kernel_rfl) (by kernel_rfl) (fun _ _ _ h => h) (by rfl) ?hy14x hHeld ?ry14x
        case hy14x => (intro w' hSw; (try dsimp only at hSw); go_simp <;> with_reducible rfl)
        try simp only [Act.put, sI, sZ, sS]
        refine take_op (i := 17) (d := 29) (OP := Op.move (Operand.tmp 4)) (T := 3) (v := ?vy15x) rfl rfl rfl rfl (by kernel_rfl) (by kernel_rfl) (by kernel_rfl) (fun _ _ _ h => h) (by rfl) ?hy15x hHeld ?ry15x
        case hy15x => (intro w' hSw; (try dsimp only at hSw); go_simp <;> with_reducible rfl)
        try simp only [Act.put, sI, sZ, sS]
        refine take_op (i := 18) (d := 30) (OP := Op.binOp BinOp.sub 3 (Operand.tmp 29) (Operand.const (Value.int IntKind.i64 1)) 3) (T := 3) (v := ?vy16x) rfl rfl rfl rfl (by kernel_rfl) (by kernel_rfl) (by kernel_rfl) (fun _ _ _ h => h) (by rfl) ?hy16x hHeld ?ry16x
        case hy16x => (intro w' hSw; (try dsimp only at hSw); go_simp <;> with_reducible rfl)
        try simp only [Act.put, sI, sZ, sS]
        refine take_op (i := 19) (d := 31) (OP := Op.index 9 (Operand.tmp 28) (Operand.tmp 30)) (T := 5) (v := ?vy17x) rfl rfl rfl rfl (by kernel_rfl) (by kernel_rfl) (by kernel_rfl) (fun _ _ _ h => h) (by rfl) ?hy17x hHeld ?ry17x
        case hy17x => (intro w' hSw; (try dsimp only at hSw); go_simp <;> with_reducible rfl)
        try simp only [Act.put, sI, sZ, sS]
        refine take_op (i := 20) (d := 32) (OP := Op.convert 5 3 (Operand.tmp 31)) (T := 3) (v := ?vy18x) rfl rfl rfl rfl (by kernel_rfl) (by kernel_rfl) (by kernel_rfl) (fun _ _ _ h => h) (by rfl) ?hy18x hHeld ?ry18x
        case hy18x => (intro w' hSw; (try dsimp only at hSw); go_simp <;> with_reducible rfl)
        try simp only [Act.put, sI, sZ, sS]
        refine call_turn_op (i := 1) (di := 13) (OPi := Op.call { callee := Callee.value (Operand.func 175), args := #[Operand.tmp 12], argTypes := #[9] }) (Ti := 2) (j := 22) (dj := 5) (OPj := Op.alloc 43) (Tj := 0) (f := 175) (args := #[.string s]) (u := .pointer (some ⟨W1.heap.size, 0, none⟩)) (w' := W1.alloc (.cells #[.int .i64 0, .int .i64 0, .string ⟨#[]⟩, .int .i64 0, .int .i64 0] 43)) rfl rfl rfl rfl rfl rfl rfl rfl (by kernel_rfl) (by rfl) (by rfl) (by go_simp) exec_alloc27 trivial ?_ ?_
        · refine (hg _).mono ?_
          rintro e v1 ⟨rfl, bb⟩
          replace hD := hD.trans (bb.mono hD.size)
          replace hQ := hQ.trans (bb.mono hz)
          replace hz := Nat.le_trans hz bb.size
          clear bb
          refine ⟨_, rfl, trivial, ?_⟩
          try simp only [Act.put, sI, sZ, sS]
          refine call_turn_op (i := 14) (di := 26) (OPi := Op.call { callee := Callee.value (Operand.func 175), args := #[Operand.tmp 25], argTypes := #[9] }) (Ti := 2) (j := 22) (dj := 5) (OPj := Op.alloc 43) (Tj := 0) (f := 175) (args := #[.string (s.extract B9 s.size)]) (u := .pointer (some ⟨v1.heap.size, 0, none⟩)) (w' := v1.alloc (.cells #[.int .i64 0, .int .i64 0, .string ⟨#[]⟩, .int .i64 0, .int .i64 0] 43)) rfl rfl rfl rfl rfl rfl rfl rfl (by kernel_rfl) (by rfl) (by rfl) (by go_simp) exec_alloc27 trivial ?_ ?_
          · refine (hn _).mono ?_
            rintro e v2 ⟨rfl, bb⟩
            replace hD := hD.trans (bb.mono hD.size)
            replace hQ := hQ.trans (bb.mono hz)
            replace hz := Nat.le_trans hz bb.size
            clear bb
            refine ⟨_, rfl, trivial, ?_⟩
            try simp only [Act.put, sI, sZ, sS]
            refine take_op (i := 15) (d := 27) (OP := Op.build 41 #[(0, Operand.tmp 21), (1, Operand.tmp 26)]) (T := 41) (v := ?vy19x) rfl rfl rfl rfl (by kernel_rfl) (by kernel_rfl) (by kernel_rfl) (fun _ _ _ h => h) (by rfl) ?hy19x hHeld ?ry19x
            case hy19x => (intro w' hSw; (try dsimp only at hSw); go_simp <;> with_reducible rfl)
            try simp only [Act.put, sI, sZ, sS]
            refine take_op (i := 21) (d := 33) (OP := Op.build 43 #[(0, Operand.tmp 13), (1, Operand.tmp 27), (2, Operand.tmp 32)]) (T := 43) (v := ?vy20x) rfl rfl rfl rfl (by kernel_rfl) (by kernel_rfl) (by kernel_rfl) (fun _ _ _ h => h) (by rfl) ?hy20x hHeld ?ry20x
            case hy20x => (intro w' hSw; (try dsimp only at hSw); go_simp <;> with_reducible rfl)
            try simp only [Act.put, sI, sZ, sS]
            refine turn_op (i := 22) (d := 5) (OP := Op.alloc 43) (T := 0) (v := .pointer (some ⟨v2.heap.size, 0, none⟩)) (w' := v2.alloc (.cells #[.int .i64 0, .int .i64 0, .string ⟨#[]⟩, .int .i64 0, .int .i64 0] 43)) rfl rfl rfl rfl (by kernel_rfl) (by rfl) (exec_alloc27) trivial ?_
            replace hHeld := trivial
            try simp only [Act.put, sI, sZ, sS]
            have mP := heap_alloc_new v2 (.cells #[.int .i64 0, .int .i64 0, .string ⟨#[]⟩, .int .i64 0, .int .i64 0] 43)
            replace hD := hD.alloc hD.size (.cells #[.int .i64 0, .int .i64 0, .string ⟨#[]⟩, .int .i64 0, .int .i64 0] 43)
            replace hQ := hQ.alloc hz (.cells #[.int .i64 0, .int .i64 0, .string ⟨#[]⟩, .int .i64 0, .int .i64 0] 43)
            have hp : w.heap.size + 1 ≤ v2.heap.size := hz
            have hpz : v2.heap.size < (v2.alloc (.cells #[.int .i64 0, .int .i64 0, .string ⟨#[]⟩, .int .i64 0, .int .i64 0] 43)).heap.size := by simp
            replace hz : w.heap.size + 1 ≤ (v2.alloc (.cells #[.int .i64 0, .int .i64 0, .string ⟨#[]⟩, .int .i64 0, .int .i64 0] 43)).heap.size := by simp; omega
            generalize v2.heap.size = Pn at mP hp hpz ⊢
            generalize v2.alloc (.cells #[.int .i64 0, .int .i64 0, .string ⟨#[]⟩, .int .i64 0, .int .i64 0] 43) = x3 at mP hD hQ hz hpz ⊢
            obtain ⟨z0, z1, z2, z3, z4, zf0, zf1, zf2, zf3, zf4⟩ := blk5 mP
            refine skip_op (i := 23) (OP := Op.store 43 (Operand.tmp 5) (Operand.tmp 33)) (T := 0) (w' := (((((x3.setCell ⟨Pn, 0, none⟩ (.int .i64 OG)).setCell ⟨Pn, 1, none⟩ (.int .i64 X8)).setCell ⟨Pn, 2, none⟩ (.string (s.extract 9 A))).setCell ⟨Pn, 3, none⟩ (.int .i64 ON)).setCell ⟨Pn, 4, none⟩ (.int .i64 XT))) rfl rfl rfl rfl (by kernel_rfl) (by rfl) (by go_simp) ⟨trivial, ?_⟩
            refine wpAnyH_done (by kernel_rfl) ?_ _
            go_wp2
            go_meet
            exact ⟨Pn, rfl, hide ⟨set5 mP, bel5 (by omega) hD, bel5 hp hQ, by simp only [setCell_size]; omega⟩⟩
          · try simp only [Act.put, sI, sZ, sS]
            have mP := heap_alloc_new v1 (.cells #[.int .i64 0, .int .i64 0, .string ⟨#[]⟩, .int .i64 0, .int .i64 0] 43)
            replace hD := hD.alloc hD.size (.cells #[.int .i64 0, .int .i64 0, .string ⟨#[]⟩, .int .i64 0, .int .i64 0] 43)
            replace hQ := hQ.alloc hz (.cells #[.int .i64 0, .int .i64 0, .string ⟨#[]⟩, .int .i64 0, .int .i64 0] 43)
            have hp : w.heap.size + 1 ≤ v1.heap.size := hz
            have hpz : v1.heap.size < (v1.alloc (.cells #[.int .i64 0, .int .i64 0, .string ⟨#[]⟩, .int .i64 0, .int .i64 0] 43)).heap.size := by simp
            replace hz : w.heap.size + 1 ≤ (v1.alloc (.cells #[.int .i64 0, .int .i64 0, .string ⟨#[]⟩, .int .i64 0, .int .i64 0] 43)).heap.size := by simp; omega
            generalize v1.heap.size = Pn at mP hp hpz ⊢
            generalize v1.alloc (.cells #[.int .i64 0, .int .i64 0, .string ⟨#[]⟩, .int .i64 0, .int .i64 0] 43) = x2 at mP hD hQ hz hpz ⊢
            refine call_op (i := 14) (d := 26) (OP := Op.call { callee := Callee.value (Operand.func 175), args := #[Operand.tmp 25], argTypes := #[9] }) (T := 2) (f := 175) (args := #[.string (s.extract B9 s.size)]) rfl rfl rfl rfl (by kernel_rfl) (by rfl) (by go_simp) ?_
            refine (hn _).mono ?_
            rintro e v5 ⟨rfl, bb⟩
            replace hD := hD.trans (bb.mono hD.size)
            replace hQ := hQ.trans (bb.mono hz)
            replace hz := Nat.le_trans hz bb.size
            replace mP := (bb.block _ hpz).trans mP
            replace hpz := Nat.lt_of_lt_of_le hpz bb.size
            clear bb
            refine ⟨_, rfl, trivial, ?_⟩
            replace hHeld := trivial
            try simp only [Act.put, sI, sZ, sS]
            refine take_op (i := 15) (d := 27) (OP := Op.build 41 #[(0, Operand.tmp 21), (1, Operand.tmp 26)]) (T := 41) (v := ?vy21x) rfl rfl rfl rfl (by kernel_rfl) (by kernel_rfl) (by kernel_rfl) (fun _ _ _ h => h) (by rfl) ?hy21x hHeld ?ry21x
            case hy21x => (intro w' hSw; (try dsimp only at hSw); go_simp <;> with_reducible rfl)
            try simp only [Act.put, sI, sZ, sS]
            refine take_op (i := 21) (d := 33) (OP := Op.build 43 #[(0, Operand.tmp 13), (1, Operand.tmp 27), (2, Operand.tmp 32)]) (T := 43) (v := ?vy22x) rfl rfl rfl rfl (by kernel_rfl) (by kernel_rfl) (by kernel_rfl) (fun _ _ _ h => h) (by rfl) ?hy22x hHeld ?ry22x
            case hy22x => (intro w' hSw; (try dsimp only at hSw); go_simp <;> with_reducible rfl)
            try simp only [Act.put, sI, sZ, sS]
            obtain ⟨z0, z1, z2, z3, z4, zf0, zf1, zf2, zf3, zf4⟩ := blk5 mP
            refine skip_op (i := 23) (OP := Op.store 43 (Operand.tmp 5) (Operand.tmp 33)) (T := 0) (w' := (((((v5.setCell ⟨Pn, 0, none⟩ (.int .i64 OG)).setCell ⟨Pn, 1, none⟩ (.int .i64 X8)).setCell ⟨Pn, 2, none⟩ (.string (s.extract 9 A))).setCell ⟨Pn, 3, none⟩ (.int .i64 ON)).setCell ⟨Pn, 4, none⟩ (.int .i64 XT))) rfl rfl rfl rfl (by kernel_rfl) (by rfl) (by go_simp) ⟨trivial, ?_⟩
            refine wpAnyH_done (by kernel_rfl) ?_ _
            go_wp2
            go_meet
            exact ⟨Pn, rfl, hide ⟨set5 mP, bel5 (by omega) hD, bel5 hp hQ, by simp only [setCell_size]; omega⟩⟩
        · try simp only [Act.put, sI, sZ, sS]
          have mP := heap_alloc_new W1 (.cells #[.int .i64 0, .int .i64 0, .string ⟨#[]⟩, .int .i64 0, .int .i64 0] 43)
          replace hD := hD.alloc hD.size (.cells #[.int .i64 0, .int .i64 0, .string ⟨#[]⟩, .int .i64 0, .int .i64 0] 43)
          replace hQ := hQ.alloc hz (.cells #[.int .i64 0, .int .i64 0, .string ⟨#[]⟩, .int .i64 0, .int .i64 0] 43)
          have hp : w.heap.size + 1 ≤ W1.heap.size := hz
          have hpz : W1.heap.size < (W1.alloc (.cells #[.int .i64 0, .int .i64 0, .string ⟨#[]⟩, .int .i64 0, .int .i64 0] 43)).heap.size := by simp
          replace hz : w.heap.size + 1 ≤ (W1.alloc (.cells #[.int .i64 0, .int .i64 0, .string ⟨#[]⟩, .int .i64 0, .int .i64 0] 43)).heap.size := by simp; omega
          generalize W1.heap.size = Pn at mP hp hpz ⊢
          generalize W1.alloc (.cells #[.int .i64 0, .int .i64 0, .string ⟨#[]⟩, .int .i64 0, .int .i64 0] 43) = x1 at mP hD hQ hz hpz ⊢
          refine call_op (i := 1) (d := 13) (OP := Op.call { callee := Callee.value (Operand.func 175), args := #[Operand.tmp 12], argTypes := #[9] }) (T := 2) (f := 175) (args := #[.string s]) rfl rfl rfl rfl (by kernel_rfl) (by rfl) (by go_simp) ?_
          refine (hg _).mono ?_
          rintro e v7 ⟨rfl, bb⟩
          replace hD := hD.trans (bb.mono hD.size)
          replace hQ := hQ.trans (bb.mono hz)
          replace hz := Nat.le_trans hz bb.size
          replace mP := (bb.block _ hpz).trans mP
          replace hpz := Nat.lt_of_lt_of_le hpz bb.size
          clear bb
          refine ⟨_, rfl, trivial, ?_⟩
          replace hHeld := trivial
          try simp only [Act.put, sI, sZ, sS]
          refine call_op (i := 14) (d := 26) (OP := Op.call { callee := Callee.value (Operand.func 175), args := #[Operand.tmp 25], argTypes := #[9] }) (T := 2) (f := 175) (args := #[.string (s.extract B9 s.size)]) rfl rfl rfl rfl (by kernel_rfl) (by rfl) (by go_simp) ?_
          refine (hn _).mono ?_
          rintro e v8 ⟨rfl, bb⟩
          replace hD := hD.trans (bb.mono hD.size)
          replace hQ := hQ.trans (bb.mono hz)
          replace hz := Nat.le_trans hz bb.size
          replace mP := (bb.block _ hpz).trans mP
          replace hpz := Nat.lt_of_lt_of_le hpz bb.size
          clear bb
          refine ⟨_, rfl, trivial, ?_⟩
          replace hHeld := trivial
          try simp only [Act.put, sI, sZ, sS]
          refine take_op (i := 15) (d := 27) (OP := Op.build 41 #[(0, Operand.tmp 21), (1, Operand.tmp 26)]) (T := 41) (v := ?vy23x) rfl rfl rfl rfl (by kernel_rfl) (by kernel_rfl) (by kernel_rfl) (fun _ _ _ h => h) (by rfl) ?hy23x hHeld ?ry23x
          case hy23x => (intro w' hSw; (try dsimp only at hSw); go_simp <;> with_reducible rfl)
          try simp only [Act.put, sI, sZ, sS]
          refine take_op (i := 21) (d := 33) (OP := Op.build 43 #[(0, Operand.tmp 13), (1, Operand.tmp 27), (2, Operand.tmp 32)]) (T := 43) (v := ?vy24x) rfl rfl rfl rfl (by kernel_rfl) (by kernel_rfl) (by kernel_rfl) (fun _ _ _ h => h) (by rfl) ?hy24x hHeld ?ry24x
          case hy24x => (intro w' hSw; (try dsimp only at hSw); go_simp <;> with_reducible rfl)
          try simp only [Act.put, sI, sZ, sS]
          obtain ⟨z0, z1, z2, z3, z4, zf0, zf1, zf2, zf3, zf4⟩ := blk5 mP
          refine skip_op (i := 23) (OP := Op.store 43 (Operand.tmp 5) (Operand.tmp 33)) (T := 0) (w' := (((((v8.setCell ⟨Pn, 0, none⟩ (.int .i64 OG)).setCell ⟨Pn, 1, none⟩ (.int .i64 X8)).setCell ⟨Pn, 2, none⟩ (.string (s.extract 9 A))).setCell ⟨Pn, 3, none⟩ (.int .i64 ON)).setCell ⟨Pn, 4, none⟩ (.int .i64 XT))) rfl rfl rfl rfl (by kernel_rfl) (by rfl) (by go_simp) ⟨trivial, ?_⟩
          refine wpAnyH_done (by kernel_rfl) ?_ _
          go_wp2
          go_meet
          exact ⟨Pn, rfl, hide ⟨set5 mP, bel5 (by omega) hD, bel5 hp hQ, by simp only [setCell_size]; omega⟩⟩
    case rest =>
      clear hD hQ hz
      obtain ⟨Pn, rfl, HP⟩ := hcut
      obtain ⟨mP, hD, hQ, hz⟩ := HP.out
      obtain ⟨y0, y1, y2, y3, y4, _, _, _, _, _⟩ := blk5 mP
      have hwz : w.heap.size + 1 ≤ wc.heap.size := by have := hQ.size; omega
      cases VV with
      | false =>
        have hpv : PV = false := by have := HV.out.1; simpa using this
        obtain ⟨e0, e1, e2, e3, e4, eE⟩ := HV.out.2.2 hpv
        have HEQ := hide (And.intro eE (And.intro e0 (And.intro e1 (And.intro e2 (And.intro e3 e4)))))
        clear eE e0 e1 e2 e3 e4
        go_wp2_with (go_at_call 112; refine (hv _).mono ?_; rintro e w5 ⟨rfl, b5⟩; have HR := hide (hk w5 (hQ.trans (b5.mono hwz))); obtain ⟨z0, z1', z2, z3, z4, zf0, zf1, zf2, zf3, zf4⟩ := blk5 HR.out; have hD5 := hD.trans (b5.mono hD.size); clear b5)
        refine ret_row_tmp w.heap.size [.int .i64 0, .int .i64 0, .string ⟨#[]⟩, .int .i64 0, .int .i64 0] rfl rfl rfl Tryz.underlying43 rfl (by kernel_rfl) (t := 43) (fr := (0, 0)) (set5 HR.out) rfl ?_
        exact ⟨by rw [HEQ.out.1, HEQ.out.2.1, HEQ.out.2.2.1, HEQ.out.2.2.2.1, HEQ.out.2.2.2.2.1, HEQ.out.2.2.2.2.2] <;> rfl, bel5 (Nat.le_refl _) hD5⟩
      | true =>
        have hty := ht rfl
        clear ht
        by_cases hTs : TT = s
        · have hpv : PV = true := by have := HV.out.1; rw [this]; simp [hTs]
          obtain ⟨e0, e1, e2, e3, e4, eE⟩ := HV.out.2.1 hpv
          have HEQ := hide (And.intro eE (And.intro e0 (And.intro e1 (And.intro e2 (And.intro e3 e4)))))
          clear eE e0 e1 e2 e3 e4
          have hTn : (TT.toList == s.toList) = true := by rw [hTs]; simp
          go_wp2_with (go_at_call 112; refine (hv _).mono ?_; rintro e w5 ⟨rfl, b5⟩; have mP5 := (b5.block _ hz).trans mP; have hD5 := hD.trans (b5.mono hD.size); have hQ5 := hQ.trans (b5.mono hwz); have hz5 := Nat.le_trans hwz b5.size; have hzP := Nat.lt_of_lt_of_le hz b5.size; clear y0 y1 y2 y3 y4 b5; obtain ⟨y0, y1, y2, y3, y4, _, _, _, _, _⟩ := blk5 mP5)
          go_wp2_with (go_at_call 176; refine (hty _).mono ?_; rintro e w6 ⟨rfl, b6⟩; have mP6 := (b6.block _ hzP).trans mP5; have HR := hide (hk w6 (hQ5.trans (b6.mono hz5))); have hD6 := hD5.trans (b6.mono hD5.size); clear y0 y1 y2 y3 y4 b6; obtain ⟨y0, y1, y2, y3, y4, _, _, _, _, _⟩ := blk5 mP6; obtain ⟨z0, z1', z2, z3, z4, zf0, zf1, zf2, zf3, zf4⟩ := blk5 HR.out)
          refine ret_row_tmp w.heap.size [.int .i64 OG, .int .i64 X8, .string (s.extract 9 A), .int .i64 ON, .int .i64 XT] rfl rfl rfl Tryz.underlying43 rfl (by kernel_rfl) (t := 43) (fr := (0, 0)) (set5 HR.out) rfl ?_
          exact ⟨by rw [HEQ.out.1, HEQ.out.2.1, HEQ.out.2.2.1, HEQ.out.2.2.2.1, HEQ.out.2.2.2.2.1, HEQ.out.2.2.2.2.2] <;> rfl, bel5 (Nat.le_refl _) hD6⟩
        · have hpv : PV = false := by have := HV.out.1; rw [this]; simp [hTs]
          obtain ⟨e0, e1, e2, e3, e4, eE⟩ := HV.out.2.2 hpv
          have HEQ := hide (And.intro eE (And.intro e0 (And.intro e1 (And.intro e2 (And.intro e3 e4)))))
          clear eE e0 e1 e2 e3 e4
          have hTn : (TT.toList == s.toList) = false := by rw [beq_eq_false_iff_ne, ByteArray.toList_eq, ByteArray.toList_eq]; exact fun h => hTs (ba_ext h)
          go_wp2_with (go_at_call 112; refine (hv _).mono ?_; rintro e w5 ⟨rfl, b5⟩; have mP5 := (b5.block _ hz).trans mP; have hD5 := hD.trans (b5.mono hD.size); have hQ5 := hQ.trans (b5.mono hwz); have hz5 := Nat.le_trans hwz b5.size; clear y0 y1 y2 y3 y4 b5; obtain ⟨y0, y1, y2, y3, y4, _, _, _, _, _⟩ := blk5 mP5)
          go_wp2_with (go_at_call 176; refine (hty _).mono ?_; rintro e w6 ⟨rfl, b6⟩; have HR := hide (hk w6 (hQ5.trans (b6.mono hz5))); have hD6 := hD5.trans (b6.mono hD5.size); clear b6; obtain ⟨z0, z1', z2, z3, z4, zf0, zf1, zf2, zf3, zf4⟩ := blk5 HR.out)
          refine ret_row_tmp w.heap.size [.int .i64 0, .int .i64 0, .string ⟨#[]⟩, .int .i64 0, .int .i64 0] rfl rfl rfl Tryz.underlying43 rfl (by kernel_rfl) (t := 43) (fr := (0, 0)) (set5 HR.out) rfl ?_
          exact ⟨by rw [HEQ.out.1, HEQ.out.2.1, HEQ.out.2.2.1, HEQ.out.2.2.2.1, HEQ.out.2.2.2.2.1, HEQ.out.2.2.2.2.2] <;> rfl, bel5 (Nat.le_refl _) hD6⟩
end Go.Proofs.YtkkpdgfllnbigaaGreat
namespace Go.Proofs.YtkkpdgfllnbigaaGreat
open Go.RowKit Go.Shelf
set_option linter.unusedSimpArgs false
attribute [local go_sem] Oper.semAt_some

end Go.Proofs.YtkkpdgfllnbigaaGreat
namespace Go.Proofs.YtkkpdgfllnbigaaGreat
open Go.RowKit Go.Shelf

end Go.Proofs.YtkkpdgfllnbigaaGreat
namespace Go.Proofs.YtkkpdgfllnbigaaGreat
open Go.RowKit Go.Shelf

def UpS (l : List El) : Prop := l.Pairwise (fun a b => cmpT a.1 b.1 = -1)
end Go.Proofs.YtkkpdgfllnbigaaGreat
