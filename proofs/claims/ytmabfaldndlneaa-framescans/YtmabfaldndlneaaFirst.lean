/-
  WALKS over the frame with which bytes begin: first.
-/
import Derived.Test.YtmabfaldndlneaaHead
import Derived.Laws.Cover3
namespace Go.Proofs.Ytmabfaldndlneaa
open Go.RowKit Crc
set_option linter.unusedSimpArgs false

theorem exec_load_mid {P : Program} {ev : Operand → Value} {x : Operand} {b o : Nat} {ty T : TypeId} {cs : List Value} {w : World} {d : TypeDesc} (hx : ev x = .pointer (some ⟨b, o, none⟩)) (hc : w.rangeAt b o cs) (hu : P.underlying ty = some d) (hd : d.isRow = true) (hi : (P.info? ty).map (·.size) = some cs.length) :
    (execOp ev { dst := none, op := .load ty x, type := T, pos := "", after := #[], guard := none }).run P w = .ok (.value (.agg cs.toArray)) w := by
  unfold execOp
  simp only [hx]
  rw [Sem.run_bind, run_loadAt_mid w b o ty cs d hc hu hd hi]
  rfl
theorem exec_store_new {P : Program} {ev : Operand → Value} {x y : Operand} {b : Nat} {ty T : TypeId} {cs : List Value} {c : Array Value} {W : World} (hb : W.heap.size = b) (hx : ev x = .pointer (some ⟨b, 0, none⟩)) (hy : ev y = .agg cs.toArray) (hi : (P.info? ty).map (·.size) = some cs.length) (hc : c.size = cs.length) (h1 : ∀ v ∈ cs, v.oneCell' = true) :
    (execOp ev { dst := none, op := .store ty x y, type := T, pos := "", after := #[], guard := none }).run P (W.alloc (.cells c ty)) = .ok .skip (W.alloc (.cells cs.toArray ty)) := by
  subst hb
  unfold execOp
  simp only [hx, hy]
  rw [Sem.run_bind, run_storeAt_new W ty c cs.toArray (by rw [hi, List.size_toArray]) (by rw [hc, List.size_toArray]) (all_oneCell_toArray h1)]
  rfl
theorem rangeAt_rd {w : World} {ab off : Nat} {l : List Int} (h : Rd w (some ⟨ab, off, none⟩) l) : w.rangeAt ab off (u8s l) := fun j v hv => by
  have := h.2 _ rfl j v hv
  rwa [add_lit] at this

theorem exec_slice_hi {ev : Operand → Value} {x y : Operand} {T : TypeId} {ao : Option Addr} {n c j : Nat} {k : IntKind} {w : World} (hx : ev x = .slice ao n c) (hy : ev y = .int k (j : Int)) (hj : j ≤ c) (hn : ao = none → c = 0) :
    (execOp ev { dst := none, op := .slice 22 x none (some y) none, type := T, pos := "", after := #[], guard := none }).run Try.prog w = .ok (.value (.slice ao j c)) w := by
  unfold execOp
  simp only [hx, hy, Option.map_some, Option.map_none, Sem.run_bind]
  have hs : (Instr.sliceAt 22 (.slice ao n c) none (some (.int k (j : Int))) none).run Try.prog w = .ok (.slice ao j c) w := by
    have := slice_hi (n := n) k hj hn w
    simpa [Instr.sliceAt] using this
  rw [hs]; rfl
theorem exec_slice_lo {ev : Operand → Value} {x y : Operand} {T : TypeId} {ao : Option Addr} {n c i : Nat} {w : World} (hx : ev x = .slice ao n c) (hy : ev y = .int .i64 (i : Int)) (hi : i ≤ n) (hc : n ≤ c) :
    (execOp ev { dst := none, op := .slice 22 x (some y) none none, type := T, pos := "", after := #[], guard := none }).run Try.prog w = .ok (.value (.slice (sub ao c i) (n - i) (c - i))) w := by
  unfold execOp
  simp only [hx, hy, Option.map_some, Option.map_none, Sem.run_bind]
  have hs : (Instr.sliceAt 22 (.slice ao n c) (some (.int .i64 (i : Int))) none none).run Try.prog w = .ok (.slice (sub ao c i) (n - i) (c - i)) w := by
    have := slice_lo (ao := ao) hi hc w
    simpa [Instr.sliceAt] using this
  rw [hs]; rfl
theorem exec_slice_mid {ev : Operand → Value} {x y z : Operand} {T : TypeId} {ao : Option Addr} {n c i j : Nat} {w : World} (hx : ev x = .slice ao n c) (hy : ev y = .int .i64 (i : Int)) (hz : ev z = .int .i64 (j : Int)) (hi : i ≤ j) (hc : j ≤ c) :
    (execOp ev { dst := none, op := .slice 22 x (some y) (some z) none, type := T, pos := "", after := #[], guard := none }).run Try.prog w = .ok (.value (.slice (sub ao c i) (j - i) (c - i))) w := by
  unfold execOp
  simp only [hx, hy, hz, Option.map_some, Option.map_none, Sem.run_bind]
  have hs : (Instr.sliceAt 22 (.slice ao n c) (some (.int .i64 (i : Int))) (some (.int .i64 (j : Int))) none).run Try.prog w = .ok (.slice (sub ao c i) (j - i) (c - i)) w := by
    have := slice_mid (ao := ao) (n := n) hi hc w
    simpa [Instr.sliceAt] using this
  rw [hs]; rfl
theorem exec_array {ev : Operand → Value} {x : Operand} {T : TypeId} {ao : Option Addr} {n c : Nat} {w : World} (hx : ev x = .slice ao n c) (hn : 9 ≤ n) :
    (execOp ev { dst := none, op := .sliceToArrayPointer 53 x, type := T, pos := "", after := #[], guard := none }).run Try.prog w = .ok (.value (.pointer ao)) w := by
  have h := run_arrayAt (P := Try.prog) w 53 5 9 ao n c Try.underlying53 hn
  unfold execOp
  simp only [hx, Sem.run_bind, h]
  rfl
/-- An operation of a plain region that yields a value. -/
theorem wpList_value {P : Program} {ops : Array Oper} {rest : List Oper} {o : Oper} {a : Act} {w : World} {Q : Exit → Act → World → Prop} {OP : Op} {T : TypeId} {v : Value} (hgd : o.guard = none) (ho : o.op = OP) (ht : o.type = T)
    (hy : (execOp a.eval { dst := none, op := OP, type := T, pos := "", after := #[], guard := none }).run P w = .ok (.value v) w) (h : wpList P ops Q rest (a.put o.dst v) w) : wpList P ops Q (o :: rest) a w :=
  wpList_plain hgd fun K hK => by
    unfold Oper.wp
    rw [exec_same a.eval o ho ht, hy]
    exact hK _ _ h

theorem getD_take {b : List Int} {k n : Nat} (h : k < n) : (b.take n).getD k 0 = b.getD k 0 := by
  simp only [List.getD_eq_getElem?_getD]
  rw [List.getElem?_take, if_pos h]
theorem len4_take (b : List Int) : len4 (b.take 9) = len4 b := by
  unfold len4
  rw [getD_take (by omega), getD_take (by omega), getD_take (by omega), getD_take (by omega)]
theorem two_set {w : World} {R : Nat} {x y u v : Value} {t : TypeId} (h : w.heap[R]? = some (.cells #[x, y] t (0, 0))) : ((w.setCell ⟨R, 0, none⟩ u).setCell ⟨R, 1, none⟩ v).heap[R]? = some (.cells #[u, v] t (0, 0)) := by
  rw [heap_setCell_same _ _ _ _ t _ (heap_setCell_same _ _ _ _ t _ h)]
  simp
theorem two_only (w : World) (R : Nat) (u v : Value) : Only (fun j => j = R) w ((w.setCell ⟨R, 0, none⟩ u).setCell ⟨R, 1, none⟩ v) := ((Only.refl (fun j => j = R) w).setCell ⟨R, 0, none⟩ u (fun _ => rfl)).setCell ⟨R, 1, none⟩ v (fun _ => rfl)

/-- What 'first' answers. -/
def Firsts (w : World) (ao : Option Addr) (c : Nat) (b : List Int) (e : Ending) : Prop :=
  (why b ≠ 0 ∧ e = .returned (.tuple #[frv 0 none 0 0, .int .i64 (why b : Nat)])) ∨ (why b = 0 ∧ e = .returned (.tuple #[frv (fst b).kind (sub ao c 9) (fst b).body.length (c - 9), .int .i64 0]) ∧ Bs w (sub ao c 9) (c - 9) (fst b).body)

section
variable {w : World} {ao : Option Addr} {c : Nat} {b : List Int}
set_option maxHeartbeats 1000000 in
set_option maxRecDepth 100000 in
theorem first_any (h : Bs w ao c b) (hlen : b.length ≤ 1099511627776) : Calls Try.prog 18 #[.slice ao b.length c] w fun e w' => Firsts w ao c b e ∧ Below w.heap.size w w' := by
  have hb1 : Below w.heap.size w (w.alloc (.cells #[.int .i64 0, .slice none 0 0] 36)) := (Below.refl _ w).alloc (Nat.le_refl _) _
  by_cases h9 : b.length < 9
  · have hd : decide ((b.length : Int) < 9) = true := by simp; omega
    have hd2 : decide (b.length < 9) = true := by simpa using h9
    have hb2 : Below w.heap.size w (w.alloc (.cells #[.int .i64 0, .slice none 0 0] 36)) := hb1
    go_enter Try.func18, Try.ntmps18
    go_wp2
    refine ret_row_tmp w.heap.size [.int .i64 0, .slice none 0 0] rfl rfl rfl Try.underlying36 rfl (by kernel_rfl) (t := 36) (fr := (0, 0)) ?_ rfl ?_
    · exact heap_alloc_new w _
    · exact ⟨.inl ⟨by rw [why_few h9]; decide, by rw [why_few h9]; rfl⟩, hb1⟩
  · have hd : decide ((b.length : Int) < 9) = false := by simp; omega
    have hd2 : decide (b.length < 9) = false := by simpa using h9
    obtain ⟨b0, hb0⟩ : ∃ b0, b[0]? = some b0 := ⟨_, List.getElem?_eq_getElem (by omega)⟩
    obtain ⟨ab, off, rfl, _⟩ := h.rd.at hb0
    have hcap := h.cap
    have hc9 : 9 ≤ c := by omega
    have hb9 : 9 ≤ b.length := by omega
    have hS3 : (w.alloc (.cells #[.int .i64 0, .slice none 0 0] 36)).drew.rangeAt ab off (u8s (b.take 9)) := rangeAt_rd (((h.upto (j := 9) (by omega)).below hb1).drew).rd
    have hr9 : Rd w (some ⟨ab, off, none⟩) (b.take 9) := (h.upto (j := 9) (by omega)).rd
    have hl9 : (b.take 9).length = 9 := by simp; omega
    obtain ⟨hz, hi⟩ := zero_of_info (P := Try.prog) Try.info53
    go_enter Try.func18, Try.ntmps18
    go_wp2
    have hS3b := World.rangeAt_alloc hS3 (.cells (Array.replicate 9 (.int .u8 0)) 53)
    have hS3c := World.rangeAt_alloc hS3 (.cells (u8s (b.take 9)).toArray 53)
    refine wp_region_held_drew (S := (fun w' => w'.rangeAt ab off (u8s (b.take 9)))) (by kernel_rfl) (by exact hS3) (fun hHeld => ?_)
    try dsimp only at hHeld
    refine take_op (i := 0) (d := 11) (OP := Op.move (Operand.tmp 0)) (T := 22) (v := ?vq5x) rfl rfl rfl rfl (by kernel_rfl) (by kernel_rfl) (by kernel_rfl) (fun _ _ _ h => h) (by rfl) ?hq5x hHeld ?rq5x
    case hq5x => (intro w' hSw; (try dsimp only at hSw); go_simp <;> with_reducible rfl)
    try simp only [Act.put, List.setIfInBounds_toArray, List.set_cons_zero, List.set_cons_succ]
    refine take_op (i := 1) (d := 12) (OP := Op.slice 22 (Operand.tmp 11) none (some (Operand.const (Value.int IntKind.i64 9))) none) (T := 22) (v := .slice (some ⟨ab, off, none⟩) 9 c) rfl rfl rfl rfl (by kernel_rfl) (by kernel_rfl) (by kernel_rfl) (fun _ _ _ h => h) (by rfl) ?hz1x hHeld ?rz1x
    case hz1x => (intro w' hSw; exact exec_slice_hi (n := b.length) (j := 9) (k := .i64) rfl rfl hc9 (by intro h; cases h))
    try simp only [Act.put, List.setIfInBounds_toArray, List.set_cons_zero, List.set_cons_succ]
    refine take_op (i := 2) (d := 13) (OP := Op.sliceToArrayPointer 53 (Operand.tmp 12)) (T := 0) (v := .pointer (some ⟨ab, off, none⟩)) rfl rfl rfl rfl (by kernel_rfl) (by kernel_rfl) (by kernel_rfl) (fun _ _ _ h => h) (by rfl) ?hz2x hHeld ?rz2x
    case hz2x => (intro w' hSw; exact exec_array (n := 9) (c := c) rfl (by omega))
    try simp only [Act.put, List.setIfInBounds_toArray, List.set_cons_zero, List.set_cons_succ]
    refine take_op (i := 3) (d := 14) (OP := Op.load 53 (Operand.tmp 13)) (T := 53) (v := .agg (u8s (b.take 9)).toArray) rfl rfl rfl rfl (by kernel_rfl) (by kernel_rfl) (by kernel_rfl) (fun _ _ _ h => h) (by rfl) ?hz3x hHeld ?rz3x
    case hz3x => (intro w' hSw; exact exec_load_mid (d := .array 9 5) rfl hSw Try.underlying53 rfl (by rw [hi, u8s_length, hl9]))
    try simp only [Act.put, List.setIfInBounds_toArray, List.set_cons_zero, List.set_cons_succ]
    refine take_op (i := 4) (d := 15) (OP := Op.move (Operand.tmp 0)) (T := 22) (v := ?vq9x) rfl rfl rfl rfl (by kernel_rfl) (by kernel_rfl) (by kernel_rfl) (fun _ _ _ h => h) (by rfl) ?hq9x hHeld ?rq9x
    case hq9x => (intro w' hSw; (try dsimp only at hSw); go_simp <;> with_reducible rfl)
    try simp only [Act.put, List.setIfInBounds_toArray, List.set_cons_zero, List.set_cons_succ]
    refine take_op (i := 5) (d := 16) (OP := Op.slice 22 (Operand.tmp 15) (some (Operand.const (Value.int IntKind.i64 9))) none none) (T := 22) (v := .slice (sub (some ⟨ab, off, none⟩) c 9) (b.length - 9) (c - 9)) rfl rfl rfl rfl (by kernel_rfl) (by kernel_rfl) (by kernel_rfl) (fun _ _ _ h => h) (by rfl) ?hz4x hHeld ?rz4x
    case hz4x => (intro w' hSw; exact exec_slice_lo (n := b.length) (i := 9) rfl rfl hb9 hcap)
    try simp only [Act.put, List.setIfInBounds_toArray, List.set_cons_zero, List.set_cons_succ]
    refine turn_op (i := 6) (d := 4) (OP := Op.alloc 53) (T := 0) (v := .pointer (some ⟨w.heap.size + 1, 0, none⟩)) (w' := (w.alloc (.cells #[.int .i64 0, .slice none 0 0] 36)).drew.alloc (.cells (Array.replicate 9 (.int .u8 0)) 53)) rfl rfl rfl rfl (by kernel_rfl) (by rfl) (by go_simp) hS3b ?_
    replace hHeld := hS3b
    try simp only [Act.put, List.setIfInBounds_toArray, List.set_cons_zero, List.set_cons_succ]
    refine skip_op (i := 7) (OP := Op.store 53 (Operand.tmp 4) (Operand.tmp 14)) (T := 0) (w' := (w.alloc (.cells #[.int .i64 0, .slice none 0 0] 36)).drew.alloc (.cells (u8s (b.take 9)).toArray 53)) rfl rfl rfl rfl (by kernel_rfl) (by rfl) (exec_store_new (by simp) rfl rfl (by rw [hi, u8s_length, hl9]) (by simp [u8s_length, hl9]) u8s_one) ⟨hS3c, ?_⟩
    replace hHeld := hS3c
    refine take_op (i := 8) (d := 5) (OP := Op.assign (Operand.tmp 16)) (T := 22) (v := ?vq13x) rfl rfl rfl rfl (by kernel_rfl) (by kernel_rfl) (by kernel_rfl) (fun _ _ _ h => h) (by rfl) ?hq13x hHeld ?rq13x
    case hq13x => (intro w' hSw; (try dsimp only at hSw); go_simp <;> with_reducible rfl)
    try simp only [Act.put, List.setIfInBounds_toArray, List.set_cons_zero, List.set_cons_succ]
    refine wpAnyH_done (by kernel_rfl) ?_ _
    have b3 : Below w.heap.size w ((w.alloc (.cells #[.int .i64 0, .slice none 0 0] 36)).drew.alloc (.cells (u8s (b.take 9)).toArray 53)) := hb1.drew.alloc (by simp) _
    have hs3 : ((w.alloc (.cells #[.int .i64 0, .slice none 0 0] 36)).drew.alloc (.cells (u8s (b.take 9)).toArray 53)).heap.size = w.heap.size + 2 := by simp
    have hR3 : ((w.alloc (.cells #[.int .i64 0, .slice none 0 0] 36)).drew.alloc (.cells (u8s (b.take 9)).toArray 53)).heap[w.heap.size]? = some (.cells #[.int .i64 0, .slice none 0 0] 36 (0, 0)) := ((Below.refl _ (w.alloc (.cells #[.int .i64 0, .slice none 0 0] 36))).drew.alloc (Nat.le_refl _) _).block _ (by simp) |>.trans (heap_alloc_new w _)
    have hg3 : ((w.alloc (.cells #[.int .i64 0, .slice none 0 0] 36)).drew.alloc (.cells (u8s (b.take 9)).toArray 53)).rangeAt (w.heap.size + 1) 0 (u8s (b.take 9)) := by
      have := rangeAt_new (w.alloc (.cells #[.int .i64 0, .slice none 0 0] 36)).drew (u8s (b.take 9)) 53
      simpa using this
    generalize ((w.alloc (.cells #[.int .i64 0, .slice none 0 0] 36)).drew.alloc (.cells (u8s (b.take 9)).toArray 53)) = W at b3 hs3 hR3 hg3 ⊢
    have hn28 := length_any (b.take 9) W hl9 (h.u8.take 9)
    rw [len4_take] at hn28
    have hK : ∀ w4, Below W.heap.size W w4 → Hid (Below w.heap.size w w4 ∧ w4.heap[w.heap.size]? = some (.cells #[.int .i64 0, .slice none 0 0] 36 (0, 0)) ∧ w.heap.size + 2 ≤ w4.heap.size ∧ w4.rangeAt (w.heap.size + 1) 0 (u8s (b.take 9))) ∧ w4.cell? ⟨w.heap.size, 0, none⟩ = some (.int .i64 0) ∧ w4.cell? ⟨w.heap.size, 1, none⟩ = some (.slice none 0 0) ∧ w4.frozen? ⟨w.heap.size, 0, none⟩ = false ∧ w4.frozen? ⟨w.heap.size, 1, none⟩ = false := fun w4 hb => by
      have hr := (hb.block w.heap.size (by omega)).trans hR3
      exact ⟨hide ⟨b3.trans (hb.mono b3.size), hr, by have := hb.size; omega, rangeAt_below hg3 hb (by omega)⟩, blk2 hr⟩
    have H := hide h
    clear hS3 hS3b hS3c hHeld h hr9 hz hb1 b3 hR3
    have hRet : ∀ (n : Nat) (w4 : World) (fn : Func) (a : Act), why b = n → n ≠ 0 → Hid (Below w.heap.size w w4 ∧ w4.heap[w.heap.size]? = some (.cells #[.int .i64 0, .slice none 0 0] 36 (0, 0)) ∧ w.heap.size + 2 ≤ w4.heap.size ∧ w4.rangeAt (w.heap.size + 1) 0 (u8s (b.take 9))) → fn.results = #[.cell 2 36, .tmp 3] → a.tmps.getD 2 undef = .pointer (some ⟨w.heap.size, 0, none⟩) → a.tmps.getD 3 undef = .int .i64 (n : Int) → a.defers = [] →
        bodyPost Try.prog fn (fun e w' => Firsts w (some ⟨ab, off, none⟩) c b e ∧ Below w.heap.size w w') .ret a ((w4.setCell ⟨w.heap.size, 0, none⟩ (.int .i64 0)).setCell ⟨w.heap.size, 1, none⟩ (.slice none 0 0)) := fun n w4 fn a hw hn HB hres h2 h3 hd => by
      obtain ⟨q1, q2, q3, _⟩ := HB.out
      refine ret_row_tmp w.heap.size [.int .i64 0, .slice none 0 0] hres h2 h3 Try.underlying36 rfl (by kernel_rfl) (t := 36) (fr := (0, 0)) (two_set q2) hd ?_
      exact ⟨.inl ⟨by rw [hw]; exact hn, by rw [hw]⟩, Below.only q1 (two_only _ _ _ _) q1.size (by intro j e; omega)⟩
    by_cases hbig : 16777216 < len4 b
    · have hd3 : decide ((16777216 : Int) < (len4 b : Int)) = true := by simp; omega
      have hd4 : decide (16777216 < len4 b) = true := by simpa using hbig
      go_wp2_with (first
        | refine wpList_load_tab 53 (.tmp 4) (w.heap.size + 1) 9 (u8s (b.take 9)) rfl rfl rfl Try.underlying53 hi (by rw [u8s_length, hl9]) hg3 ?_
        | (go_at_call 28; refine hn28.mono ?_; rintro e w4 ⟨rfl, b4⟩; obtain ⟨HB, c0, c1, f0, f1⟩ := hK w4 b4))
      exact hRet 141 w4 _ _ (why_big h9 hbig) (by decide) HB rfl rfl rfl rfl
    · have hd3 : decide ((16777216 : Int) < (len4 b : Int)) = false := by simp; omega
      have hd4 : decide (16777216 < len4 b) = false := by simpa using hbig
      by_cases htorn : b.length < 9 + len4 b
      · have hd5 : decide (((b.length - 9 : Nat) : Int) < (len4 b : Int)) = true := by simp; omega
        have hd6 : decide (b.length - 9 < len4 b) = true := by simp; omega
        go_wp2_with (first
          | refine wpList_load_tab 53 (.tmp 4) (w.heap.size + 1) 9 (u8s (b.take 9)) rfl rfl rfl Try.underlying53 hi (by rw [u8s_length, hl9]) hg3 ?_
          | (go_at_call 28; refine hn28.mono ?_; rintro e w4 ⟨rfl, b4⟩; obtain ⟨HB, c0, c1, f0, f1⟩ := hK w4 b4))
        exact hRet 140 w4 _ _ (why_torn h9 hbig htorn) (by decide) HB rfl rfl rfl rfl
      · have hd5 : decide (((b.length - 9 : Nat) : Int) < (len4 b : Int)) = false := by simp; omega
        have hd6 : decide (b.length - 9 < len4 b) = false := by simp; omega
        go_wp2_with (first
          | refine wpList_load_tab 53 (.tmp 4) (w.heap.size + 1) 9 (u8s (b.take 9)) rfl rfl rfl Try.underlying53 hi (by rw [u8s_length, hl9]) hg3 ?_
          | (go_at_call 28; refine hn28.mono ?_; rintro e w4 ⟨rfl, b4⟩; obtain ⟨HB, c0, c1, f0, f1⟩ := hK w4 b4))
        obtain ⟨q1, q2, q3, q4⟩ := HB.out
        have hbl : ((b.drop 9).take (len4 b)).length = len4 b := by simp; omega
        have hBs := (H.out.from hb9).upto (j := len4 b) (by simp; omega)
        have hj9 : len4 b ≤ c - 9 := by omega
        have hn9 : sub (some ⟨ab, off, none⟩) c 9 = none → c - 9 = 0 := hBs.nil
        have hb0' : b.getD 0 0 = b0 := by rw [List.getD_eq_getElem?_getD, hb0]; rfl
        have hk8 : 0 ≤ b0 ∧ b0 ≤ 255 := H.out.u8 b0 (List.mem_of_getElem? hb0)
        have hg0 : w4.cell? ⟨w.heap.size + 1, 0, none⟩ = some (.int .u8 b0) := rangeAt_cell (k := 0) q4 (by rw [u8s_get, List.getElem?_take, if_pos (by omega), hb0]; rfl)
        have hS9 : w4.drew.rangeAt (w.heap.size + 1) 0 (u8s (b.take 9)) ∧ w4.drew.cell? ⟨w.heap.size + 1, 0, none⟩ = some (.int .u8 b0) := ⟨q4, hg0⟩
        have hho := headerOf_any b0 (sub (some ⟨ab, off, none⟩) c 9) (c - 9) ((b.drop 9).take (len4 b)) w4.drew hk8 ((hBs.below q1).drew).rd hn9 hBs.u8 (by omega)
        rw [hbl] at hho
        have hcl : (head b0 ((b.drop 9).take (len4 b))).length = 9 := rfl
        have HQ := hide (And.intro q1 (And.intro q2 (And.intro q3 (And.intro b4 hBs))))
        clear q1 q2 q3 q4 hBs b4 hg0
        by_cases hgood : head b0 ((b.drop 9).take (len4 b)) = b.take 9
        · have hneq : ∀ w', (Op.equalIn 10000 53 (.agg (u8s (head b0 ((b.drop 9).take (len4 b)))).toArray) (.agg (u8s (b.take 9)).toArray)).run Try.prog w' = .ok true w' := fun w' => by
            rw [equal53 _ _ hcl hl9, decide_eq_true hgood]
          have HG := hide hgood
          clear hgood
          refine wp_region_held_drew (S := (fun w' => w'.rangeAt (w.heap.size + 1) 0 (u8s (b.take 9)) ∧ w'.cell? ⟨w.heap.size + 1, 0, none⟩ = some (.int .u8 b0))) (by kernel_rfl) (by exact hS9) (fun hHeld => ?_)
          try dsimp only at hHeld
          refine take_op (i := 0) (d := 31) (OP := Op.indexAddr 53 (Operand.tmp 4) (Operand.const (Value.int IntKind.i64 0))) (T := 0) (v := ?vq16x) rfl rfl rfl rfl (by kernel_rfl) (by kernel_rfl) (by kernel_rfl) (fun _ _ _ h => h) (by rfl) ?hq16x hHeld ?rq16x
          case hq16x => (intro w' hSw; (try dsimp only at hSw); go_simp <;> with_reducible rfl)
          try simp only [Act.put, List.setIfInBounds_toArray, List.set_cons_zero, List.set_cons_succ]
          refine take_op (i := 1) (d := 32) (OP := Op.load 5 (Operand.tmp 31)) (T := 5) (v := ?vq17x) rfl rfl rfl rfl (by kernel_rfl) (by kernel_rfl) (by kernel_rfl) (fun _ _ _ h => h) (by rfl) ?hq17x hHeld ?rq17x
          case hq17x => (intro w' hSw; (try dsimp only at hSw); go_simp <;> with_reducible rfl)
          try simp only [Act.put, List.setIfInBounds_toArray, List.set_cons_zero, List.set_cons_succ]
          refine take_op (i := 2) (d := 33) (OP := Op.move (Operand.tmp 5)) (T := 22) (v := ?vq18x) rfl rfl rfl rfl (by kernel_rfl) (by kernel_rfl) (by kernel_rfl) (fun _ _ _ h => h) (by rfl) ?hq18x hHeld ?rq18x
          case hq18x => (intro w' hSw; (try dsimp only at hSw); go_simp <;> with_reducible rfl)
          try simp only [Act.put, List.setIfInBounds_toArray, List.set_cons_zero, List.set_cons_succ]
          refine take_op (i := 3) (d := 34) (OP := Op.move (Operand.tmp 6)) (T := 57) (v := ?vq19x) rfl rfl rfl rfl (by kernel_rfl) (by kernel_rfl) (by kernel_rfl) (fun _ _ _ h => h) (by rfl) ?hq19x hHeld ?rq19x
          case hq19x => (intro w' hSw; (try dsimp only at hSw); go_simp <;> with_reducible rfl)
          try simp only [Act.put, List.setIfInBounds_toArray, List.set_cons_zero, List.set_cons_succ]
          refine take_op (i := 4) (d := 35) (OP := Op.slice 22 (Operand.tmp 33) none (some (Operand.tmp 34)) none) (T := 22) (v := .slice (sub (some ⟨ab, off, none⟩) c 9) (len4 b) (c - 9)) rfl rfl rfl rfl (by kernel_rfl) (by kernel_rfl) (by kernel_rfl) (fun _ _ _ h => h) (by rfl) ?hz14x hHeld ?rz14x
          case hz14x => (intro w' hSw; exact exec_slice_hi (n := b.length - 9) (j := len4 b) (k := .u32) rfl rfl hj9 hn9)
          try simp only [Act.put, List.setIfInBounds_toArray, List.set_cons_zero, List.set_cons_succ]
          refine take_op (i := 6) (d := 37) (OP := Op.load 53 (Operand.tmp 4)) (T := 53) (v := .agg (u8s (b.take 9)).toArray) rfl rfl rfl rfl (by kernel_rfl) (by kernel_rfl) (by kernel_rfl) (fun _ _ _ h => h) (by rfl) ?hz15x hHeld ?rz15x
          case hz15x => (intro w' hSw; exact exec_load_mid (d := .array 9 5) rfl hSw.1 Try.underlying53 rfl (by rw [hi, u8s_length, hl9]))
          try simp only [Act.put, List.setIfInBounds_toArray, List.set_cons_zero, List.set_cons_succ]
          refine call_op (i := 5) (d := 36) (OP := Op.call { callee := Callee.value (Operand.func 23), args := #[Operand.tmp 32, Operand.tmp 35], argTypes := #[5, 22] }) (T := 53) (f := 23) (args := #[.int .u8 b0, .slice (sub (some ⟨ab, off, none⟩) c 9) (len4 b) (c - 9)]) rfl rfl rfl rfl (by kernel_rfl) (by rfl) (by go_simp) ?_
          refine (hho).mono ?_
          rintro e w5 ⟨rfl, b5⟩
          have hS9b : w5.rangeAt (w.heap.size + 1) 0 (u8s (b.take 9)) ∧ w5.cell? ⟨w.heap.size + 1, 0, none⟩ = some (.int .u8 b0) := ⟨rangeAt_below hHeld.1 b5 (World.block_lt_of_cell? _ _ hHeld.2), (b5.cell (World.block_lt_of_cell? _ _ hHeld.2)).trans hHeld.2⟩
          refine ⟨_, rfl, hS9b, ?_⟩
          replace hHeld := hS9b
          try simp only [Act.put, List.setIfInBounds_toArray, List.set_cons_zero, List.set_cons_succ]
          refine take_op (i := 7) (d := 38) (OP := Op.binOp BinOp.neq 53 (Operand.tmp 36) (Operand.tmp 37) 53) (T := 4) (v := ?vq23x) rfl rfl rfl rfl (by kernel_rfl) (by kernel_rfl) (by kernel_rfl) (fun _ _ _ h => h) (by rfl) ?hq23x hHeld ?rq23x
          case hq23x => (intro w' hSw; (try dsimp only at hSw); go_simp <;> with_reducible rfl)
          try simp only [Act.put, List.setIfInBounds_toArray, List.set_cons_zero, List.set_cons_succ]
          refine take_op (i := 8) (d := 30) (OP := Op.assign (Operand.tmp 38)) (T := 4) (v := ?vq24x) rfl rfl rfl rfl (by kernel_rfl) (by kernel_rfl) (by kernel_rfl) (fun _ _ _ h => h) (by rfl) ?hq24x hHeld ?rq24x
          case hq24x => (intro w' hSw; (try dsimp only at hSw); go_simp <;> with_reducible rfl)
          try simp only [Act.put, List.setIfInBounds_toArray, List.set_cons_zero, List.set_cons_succ]
          refine wpAnyH_done (by kernel_rfl) ?_ _
          have b4' := HQ.out.2.2.2.1
          have b45 : Below w4.heap.size w4 w5 := below_undrew0 b5
          have b5' := b4'.trans (b45.mono b4'.size)
          obtain ⟨HB5, c0, c1, f0, f1⟩ := hK w5 b5'
          obtain ⟨q1, q2, q3, q4⟩ := HB5.out
          have hg0 : w5.cell? ⟨w.heap.size + 1, 0, none⟩ = some (.int .u8 b0) := hHeld.2
          have hS11 : w5.drew.cell? ⟨w.heap.size + 1, 0, none⟩ = some (.int .u8 b0) := hg0
          have hbm : IntKind.i64.wrap b0 = b0 := by rw [IntKind.wrap_i64]; omega
          clear hHeld hS9 hneq hho hK hn28
          go_wp2
          have hS11b : ((w5.drew.setCell ⟨w.heap.size, 0, none⟩ (.int .i64 b0)).setCell ⟨w.heap.size, 1, none⟩ (.slice (sub (some ⟨ab, off, none⟩) c 9) (len4 b) (c - 9))).cell? ⟨w.heap.size + 1, 0, none⟩ = some (.int .u8 b0) := (two_only w5.drew w.heap.size _ _).cell hS11 (by simp)
          refine wp_region_held_drew (S := (fun w' => w'.cell? ⟨w.heap.size + 1, 0, none⟩ = some (.int .u8 b0))) (by kernel_rfl) (by exact hS11) (fun hHeld => ?_)
          try dsimp only at hHeld
          refine take_op (i := 0) (d := 40) (OP := Op.indexAddr 53 (Operand.tmp 4) (Operand.const (Value.int IntKind.i64 0))) (T := 0) (v := ?vq37x) rfl rfl rfl rfl (by kernel_rfl) (by kernel_rfl) (by kernel_rfl) (fun _ _ _ h => h) (by rfl) ?hq37x hHeld ?rq37x
          case hq37x => (intro w' hSw; (try dsimp only at hSw); go_simp <;> with_reducible rfl)
          try simp only [Act.put, List.setIfInBounds_toArray, List.set_cons_zero, List.set_cons_succ]
          refine take_op (i := 1) (d := 41) (OP := Op.load 5 (Operand.tmp 40)) (T := 5) (v := ?vq38x) rfl rfl rfl rfl (by kernel_rfl) (by kernel_rfl) (by kernel_rfl) (fun _ _ _ h => h) (by rfl) ?hq38x hHeld ?rq38x
          case hq38x => (intro w' hSw; (try dsimp only at hSw); go_simp <;> with_reducible rfl)
          try simp only [Act.put, List.setIfInBounds_toArray, List.set_cons_zero, List.set_cons_succ]
          refine take_op (i := 2) (d := 42) (OP := Op.convert 5 3 (Operand.tmp 41)) (T := 3) (v := ?vq39x) rfl rfl rfl rfl (by kernel_rfl) (by kernel_rfl) (by kernel_rfl) (fun _ _ _ h => h) (by rfl) ?hq39x hHeld ?rq39x
          case hq39x => (intro w' hSw; (try dsimp only at hSw); go_simp <;> with_reducible rfl)
          try simp only [Act.put, List.setIfInBounds_toArray, List.set_cons_zero, List.set_cons_succ]
          refine take_op (i := 3) (d := 43) (OP := Op.move (Operand.tmp 5)) (T := 22) (v := ?vq40x) rfl rfl rfl rfl (by kernel_rfl) (by kernel_rfl) (by kernel_rfl) (fun _ _ _ h => h) (by rfl) ?hq40x hHeld ?rq40x
          case hq40x => (intro w' hSw; (try dsimp only at hSw); go_simp <;> with_reducible rfl)
          try simp only [Act.put, List.setIfInBounds_toArray, List.set_cons_zero, List.set_cons_succ]
          refine take_op (i := 4) (d := 44) (OP := Op.move (Operand.tmp 6)) (T := 57) (v := ?vq41x) rfl rfl rfl rfl (by kernel_rfl) (by kernel_rfl) (by kernel_rfl) (fun _ _ _ h => h) (by rfl) ?hq41x hHeld ?rq41x
          case hq41x => (intro w' hSw; (try dsimp only at hSw); go_simp <;> with_reducible rfl)
          try simp only [Act.put, List.setIfInBounds_toArray, List.set_cons_zero, List.set_cons_succ]
          refine take_op (i := 5) (d := 45) (OP := Op.slice 22 (Operand.tmp 43) none (some (Operand.tmp 44)) none) (T := 22) (v := .slice (sub (some ⟨ab, off, none⟩) c 9) (len4 b) (c - 9)) rfl rfl rfl rfl (by kernel_rfl) (by kernel_rfl) (by kernel_rfl) (fun _ _ _ h => h) (by rfl) ?hz36x hHeld ?rz36x
          case hz36x => (intro w' hSw; exact exec_slice_hi (n := b.length - 9) (j := len4 b) (k := .u32) rfl rfl hj9 hn9)
          try simp only [Act.put, List.setIfInBounds_toArray, List.set_cons_zero, List.set_cons_succ]
          refine take_op (i := 6) (d := 46) (OP := Op.build 36 #[(0, Operand.tmp 42), (1, Operand.tmp 45)]) (T := 36) (v := ?vq43x) rfl rfl rfl rfl (by kernel_rfl) (by kernel_rfl) (by kernel_rfl) (fun _ _ _ h => h) (by rfl) ?hq43x hHeld ?rq43x
          case hq43x => (intro w' hSw; (try dsimp only at hSw); go_simp <;> with_reducible rfl)
          try simp only [Act.put, List.setIfInBounds_toArray, List.set_cons_zero, List.set_cons_succ]
          refine skip_op (i := 7) (OP := Op.store 36 (Operand.tmp 2) (Operand.tmp 46)) (T := 0) (w' := ((w5.drew.setCell ⟨w.heap.size, 0, none⟩ (.int .i64 b0)).setCell ⟨w.heap.size, 1, none⟩ (.slice (sub (some ⟨ab, off, none⟩) c 9) (len4 b) (c - 9)))) rfl rfl rfl rfl (by kernel_rfl) (by rfl) (by go_simp) ⟨hS11b, ?_⟩
          replace hHeld := hS11b
          refine take_op (i := 8) (d := 3) (OP := Op.assign (Operand.const (Value.int IntKind.i64 0))) (T := 25) (v := ?vq45x) rfl rfl rfl rfl (by kernel_rfl) (by kernel_rfl) (by kernel_rfl) (fun _ _ _ h => h) (by rfl) ?hq45x hHeld ?rq45x
          case hq45x => (intro w' hSw; (try dsimp only at hSw); go_simp <;> with_reducible rfl)
          try simp only [Act.put, List.setIfInBounds_toArray, List.set_cons_zero, List.set_cons_succ]
          refine wpAnyH_done (by kernel_rfl) ?_ _
          go_wp2
          refine ret_row_tmp w.heap.size [.int .i64 b0, .slice (sub (some ⟨ab, off, none⟩) c 9) (len4 b) (c - 9)] rfl rfl rfl Try.underlying36 rfl (by kernel_rfl) (t := 36) (fr := (0, 0)) (two_set (w := w5.drew) q2) rfl ?_
          have hf : (fst b).body = (b.drop 9).take (len4 b) := rfl
          have hf2 : (fst b).kind = b0 := hb0'
          refine ⟨.inr ⟨why_good h9 hbig htorn (by rw [hb0']; exact HG.out), ?_, ?_⟩, Below.only q1.drew (two_only _ _ _ _) q1.size (by intro j e; omega)⟩
          · rw [hf2, hf, hbl]; rfl
          · rw [hf]; exact HQ.out.2.2.2.2
        · have hneq : ∀ w', (Op.equalIn 10000 53 (.agg (u8s (head b0 ((b.drop 9).take (len4 b)))).toArray) (.agg (u8s (b.take 9)).toArray)).run Try.prog w' = .ok false w' := fun w' => by
            rw [equal53 _ _ hcl hl9, decide_eq_false hgood]
          have HG := hide hgood
          clear hgood
          refine wp_region_held_drew (S := (fun w' => w'.rangeAt (w.heap.size + 1) 0 (u8s (b.take 9)) ∧ w'.cell? ⟨w.heap.size + 1, 0, none⟩ = some (.int .u8 b0))) (by kernel_rfl) (by exact hS9) (fun hHeld => ?_)
          try dsimp only at hHeld
          refine take_op (i := 0) (d := 31) (OP := Op.indexAddr 53 (Operand.tmp 4) (Operand.const (Value.int IntKind.i64 0))) (T := 0) (v := ?vq27x) rfl rfl rfl rfl (by kernel_rfl) (by kernel_rfl) (by kernel_rfl) (fun _ _ _ h => h) (by rfl) ?hq27x hHeld ?rq27x
          case hq27x => (intro w' hSw; (try dsimp only at hSw); go_simp <;> with_reducible rfl)
          try simp only [Act.put, List.setIfInBounds_toArray, List.set_cons_zero, List.set_cons_succ]
          refine take_op (i := 1) (d := 32) (OP := Op.load 5 (Operand.tmp 31)) (T := 5) (v := ?vq28x) rfl rfl rfl rfl (by kernel_rfl) (by kernel_rfl) (by kernel_rfl) (fun _ _ _ h => h) (by rfl) ?hq28x hHeld ?rq28x
          case hq28x => (intro w' hSw; (try dsimp only at hSw); go_simp <;> with_reducible rfl)
          try simp only [Act.put, List.setIfInBounds_toArray, List.set_cons_zero, List.set_cons_succ]
          refine take_op (i := 2) (d := 33) (OP := Op.move (Operand.tmp 5)) (T := 22) (v := ?vq29x) rfl rfl rfl rfl (by kernel_rfl) (by kernel_rfl) (by kernel_rfl) (fun _ _ _ h => h) (by rfl) ?hq29x hHeld ?rq29x
          case hq29x => (intro w' hSw; (try dsimp only at hSw); go_simp <;> with_reducible rfl)
          try simp only [Act.put, List.setIfInBounds_toArray, List.set_cons_zero, List.set_cons_succ]
          refine take_op (i := 3) (d := 34) (OP := Op.move (Operand.tmp 6)) (T := 57) (v := ?vq30x) rfl rfl rfl rfl (by kernel_rfl) (by kernel_rfl) (by kernel_rfl) (fun _ _ _ h => h) (by rfl) ?hq30x hHeld ?rq30x
          case hq30x => (intro w' hSw; (try dsimp only at hSw); go_simp <;> with_reducible rfl)
          try simp only [Act.put, List.setIfInBounds_toArray, List.set_cons_zero, List.set_cons_succ]
          refine take_op (i := 4) (d := 35) (OP := Op.slice 22 (Operand.tmp 33) none (some (Operand.tmp 34)) none) (T := 22) (v := .slice (sub (some ⟨ab, off, none⟩) c 9) (len4 b) (c - 9)) rfl rfl rfl rfl (by kernel_rfl) (by kernel_rfl) (by kernel_rfl) (fun _ _ _ h => h) (by rfl) ?hz25x hHeld ?rz25x
          case hz25x => (intro w' hSw; exact exec_slice_hi (n := b.length - 9) (j := len4 b) (k := .u32) rfl rfl hj9 hn9)
          try simp only [Act.put, List.setIfInBounds_toArray, List.set_cons_zero, List.set_cons_succ]
          refine take_op (i := 6) (d := 37) (OP := Op.load 53 (Operand.tmp 4)) (T := 53) (v := .agg (u8s (b.take 9)).toArray) rfl rfl rfl rfl (by kernel_rfl) (by kernel_rfl) (by kernel_rfl) (fun _ _ _ h => h) (by rfl) ?hz26x hHeld ?rz26x
          case hz26x => (intro w' hSw; exact exec_load_mid (d := .array 9 5) rfl hSw.1 Try.underlying53 rfl (by rw [hi, u8s_length, hl9]))
          try simp only [Act.put, List.setIfInBounds_toArray, List.set_cons_zero, List.set_cons_succ]
          refine call_op (i := 5) (d := 36) (OP := Op.call { callee := Callee.value (Operand.func 23), args := #[Operand.tmp 32, Operand.tmp 35], argTypes := #[5, 22] }) (T := 53) (f := 23) (args := #[.int .u8 b0, .slice (sub (some ⟨ab, off, none⟩) c 9) (len4 b) (c - 9)]) rfl rfl rfl rfl (by kernel_rfl) (by rfl) (by go_simp) ?_
          refine (hho).mono ?_
          rintro e w5 ⟨rfl, b5⟩
          have hS9b : w5.rangeAt (w.heap.size + 1) 0 (u8s (b.take 9)) ∧ w5.cell? ⟨w.heap.size + 1, 0, none⟩ = some (.int .u8 b0) := ⟨rangeAt_below hHeld.1 b5 (World.block_lt_of_cell? _ _ hHeld.2), (b5.cell (World.block_lt_of_cell? _ _ hHeld.2)).trans hHeld.2⟩
          refine ⟨_, rfl, hS9b, ?_⟩
          replace hHeld := hS9b
          try simp only [Act.put, List.setIfInBounds_toArray, List.set_cons_zero, List.set_cons_succ]
          refine take_op (i := 7) (d := 38) (OP := Op.binOp BinOp.neq 53 (Operand.tmp 36) (Operand.tmp 37) 53) (T := 4) (v := ?vq34x) rfl rfl rfl rfl (by kernel_rfl) (by kernel_rfl) (by kernel_rfl) (fun _ _ _ h => h) (by rfl) ?hq34x hHeld ?rq34x
          case hq34x => (intro w' hSw; (try dsimp only at hSw); go_simp <;> with_reducible rfl)
          try simp only [Act.put, List.setIfInBounds_toArray, List.set_cons_zero, List.set_cons_succ]
          refine take_op (i := 8) (d := 30) (OP := Op.assign (Operand.tmp 38)) (T := 4) (v := ?vq35x) rfl rfl rfl rfl (by kernel_rfl) (by kernel_rfl) (by kernel_rfl) (fun _ _ _ h => h) (by rfl) ?hq35x hHeld ?rq35x
          case hq35x => (intro w' hSw; (try dsimp only at hSw); go_simp <;> with_reducible rfl)
          try simp only [Act.put, List.setIfInBounds_toArray, List.set_cons_zero, List.set_cons_succ]
          refine wpAnyH_done (by kernel_rfl) ?_ _
          have b4' := HQ.out.2.2.2.1
          have b45 : Below w4.heap.size w4 w5 := below_undrew0 b5
          have b5' := b4'.trans (b45.mono b4'.size)
          obtain ⟨HB5, c0, c1, f0, f1⟩ := hK w5 b5'
          clear hHeld hS9 hneq hho hK hn28
          go_wp2
          exact hRet 141 w5 _ _ (why_bad h9 hbig htorn (by rw [hb0']; exact HG.out)) (by decide) HB5 rfl rfl rfl rfl
end
end Go.Proofs.Ytmabfaldndlneaa
