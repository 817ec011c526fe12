/-
  FLDS6: how the program reads the fields of a form.
-/
import Derived.Test.YtkjabnpniingnaaGreatDoorReads2
import Derived.Test.YtkjabnpniingnaaGreatDoorNil
namespace Go.Proofs.YtkjabnpniingnaaGreatDoor
open Go.RowKit Go.Shelf
set_option linter.unusedSimpArgs false

/-- A number that is at most m: what is told, what is left, the error. -/
def upP (m : Nat) (l : List Int) (e : Int) : Nat × List Int × Int := if e ≠ 0 then (0, l, e) else if m < (rnum l).1 then (0, (rnum l).2.2, 4) else ((rnum l).1, (rnum l).2.2, (rnum l).2.1)
/-- A label. -/
def lbP (l : List Int) (e : Int) : ByteArray × List Int × Int := if e ≠ 0 then (⟨#[]⟩, l, e) else (strOfNums (rbytes 12 l).1, (rbytes 12 l).2.2, (rbytes 12 l).2.1)
theorem upP_le (m : Nat) (l : List Int) (e : Int) : (upP m l e).1 ≤ m := by
  unfold upP
  split
  · omega
  · split
    · omega
    · omega
/-- The fields at f, over a reader at b that has the bytes l before it. -/
def Fd (w : World) (f b : Nat) (l : List Int) (e : Int) : Prop := Flds w f b e ∧ Rdr 91 w b f l ∧ l.length ≤ 140737488355328
theorem Fd.lt {w : World} {f b : Nat} {l : List Int} {e : Int} (h : Fd w f b l e) : b < f ∧ f < w.heap.size := by
  obtain ⟨h1, ⟨ao, cap, _, _, _, _, _, _, h7, _⟩, _⟩ := h
  exact ⟨h7, (Array.getElem?_eq_some_iff.1 h1).1⟩
/-- Of the old blocks none has turned but f and b. -/
abbrev Turn (f b : Nat) (w w' : World) : Prop := Only (fun k => k = f ∨ k = b) w w'
theorem Only.trans' {C : Nat → Prop} {w w1 w2 : World} (h : Only C w w1) (k : Only C w1 w2) : Only C w w2 := h.trans k (fun _ _ c => c)
theorem Fd.grown {w w' : World} {f b : Nat} {l : List Int} {e : Int} {row : Option Nat} (h : Fd w f b l e) (hg : w.grownBy w' row) (hr : ∀ k, row = some k → f < k) : Fd w' f b l e := by
  obtain ⟨h1, h2, h3⟩ := h
  have hf := (Array.getElem?_eq_some_iff.1 h1).1
  exact ⟨(hg.block f hf (fun e => by have := hr f e.symm; omega)).trans h1, h2.kept hg (fun k hk => by have := hr k hk; omega), h3⟩
theorem Fd.alloc {w : World} {f b : Nat} {l : List Int} {e : Int} (h : Fd w f b l e) (o : Obj) : Fd (w.alloc o) f b l e := h.grown (World.grownBy_alloc w o none) (by simp)
theorem Fd.drew {w : World} {f b : Nat} {l : List Int} {e : Int} (h : Fd w f b l e) : Fd w.drew f b l e := h.grown (row := none) ⟨rfl, rfl, rfl, Nat.le_refl _, fun _ _ _ => rfl⟩ (by simp)
theorem Fd.set {w : World} {f b k j : Nat} {l : List Int} {e : Int} (h : Fd w f b l e) (hk : f < k) (v : Value) : Fd (w.setCell ⟨k, j, none⟩ v) f b l e := h.grown (grown_set w k j v) (fun q hq => by cases hq; exact hk)
/-- The error is written down. -/
theorem Fd.err {w : World} {f b : Nat} {l : List Int} {e e' : Int} (h : Fd w f b l e) : Fd (w.setCell ⟨f, 2, none⟩ (.int .i64 e')) f b l e' := by
  obtain ⟨h1, h2, h3⟩ := h
  refine ⟨?_, h2.kept (grown_set w f 2 _) (fun k hk => by cases hk; exact Nat.le_refl _), h3⟩
  have := heap_setCell_same _ _ 2 _ 137 (.int .i64 e') h1
  exact this
theorem Fd.num {w w' : World} {f b : Nat} {l l' : List Int} {e : Int} (h : Fd w f b l e) (hg : w.grownBy w' (some b)) (hR : Rdr 91 w' b f l') (hl : l'.length ≤ l.length) : Fd w' f b l' e := by
  have := h.lt
  exact ⟨(hg.block f this.2 (fun q => by cases q; omega)).trans h.1, hR, by have := h.2.2; omega⟩
theorem Turn.num {w w' : World} {f b : Nat} (hg : w.grownBy w' (some b)) : Turn f b w w' := (Only.ofGrown hg).mono (fun k _ e => .inr (by cases e; rfl))
theorem Turn.set {f b j : Nat} {w w' : World} {v : Value} (h : Turn f b w w') : Turn f b w (w'.setCell ⟨f, j, none⟩ v) := Only.setCell h _ v (fun _ => .inl rfl)
theorem rnum_len (l : List Int) : (rnum l).2.2.length ≤ l.length := by
  unfold rnum
  cases Plain.readN 0 0 l with
  | none => exact Nat.le_refl _
  | some p => obtain ⟨n, k⟩ := p; simp
theorem rbytes_len (m : Int) (l : List Int) : (rbytes m l).2.2.length ≤ l.length := by
  unfold rbytes
  have := rcount_left m l
  split
  · split
    · exact Nat.le_refl _
    · simp; omega
  · exact Nat.le_refl _
set_option maxHeartbeats 1000000 in
set_option maxRecDepth 100000 in
theorem upTo_any {w : World} {f b : Nat} {l : List Int} {e : Int} (m : Nat) (_hm : m ≤ 18446744073709551615) (hF : Fd w f b l e) : Calls Tryz.prog 114 #[.pointer (some ⟨f, 0, none⟩), .int .u64 (m : Int)] w fun x w' => x = .returned (.int .u64 ((upP m l e).1 : Int)) ∧ Fd w' f b (upP m l e).2.1 (upP m l e).2.2 ∧ Turn f b w w' := by
  obtain ⟨y0, y1, y2, f0, f1, f2⟩ := blk3 hF.1
  have h34 := rnumber_any b f l w hF.2.1
  have hlen := rnum_len l
  unfold upP
  by_cases he : e ≠ 0
  · rw [if_pos he]
    have he2 : (e == 0) = false := by rw [beq_eq_false_iff_ne]; exact he
    clear h34
    go_enter Tryz.func114, Tryz.ntmps114
    go_wp2
    go_ret
    exact ⟨rfl, hF, Only.refl _ _⟩
  · rw [if_neg he]
    have he0 : e = 0 := by omega
    subst he0
    clear he
    unfold NumPost at h34
    obtain ⟨N, hN⟩ : ∃ N, N = (rnum l).1 := ⟨_, rfl⟩
    obtain ⟨L, hL⟩ : ∃ L, L = (rnum l).2.2 := ⟨_, rfl⟩
    obtain ⟨E, hE⟩ : ∃ E, E = (rnum l).2.1 := ⟨_, rfl⟩
    rw [← hN, ← hL, ← hE] at h34
    rw [← hN, ← hL, ← hE]
    rw [← hL] at hlen
    have HF := hide hF
    clear hN hL hE hF
    by_cases hgt : m < N
    · rw [if_pos hgt]
      have z1 : (m : Int) < (N : Int) := by omega
      go_enter Tryz.func114, Tryz.ntmps114
      go_wp2_with (go_at_call 34; refine h34.mono ?_; rintro x w1 ⟨rfl, hR1, hg1⟩; have HF1 := hide (HF.out.num hg1 hR1 hlen); have HT1 := hide (Turn.num (f := f) hg1); obtain ⟨x0, x1, x2, g0, g1, g2⟩ := blk3 HF1.out.1; clear hR1 hg1 y0 y1 y2 f0 f1 f2)
      go_ret
      exact ⟨rfl, HF1.out.err, HT1.out.set⟩
    · rw [if_neg hgt]
      have z1 : ¬ (m : Int) < (N : Int) := by omega
      go_enter Tryz.func114, Tryz.ntmps114
      go_wp2_with (go_at_call 34; refine h34.mono ?_; rintro x w1 ⟨rfl, hR1, hg1⟩; have HF1 := hide (HF.out.num hg1 hR1 hlen); have HT1 := hide (Turn.num (f := f) hg1); obtain ⟨x0, x1, x2, g0, g1, g2⟩ := blk3 HF1.out.1; clear hR1 hg1 y0 y1 y2 f0 f1 f2)
      go_ret
      exact ⟨rfl, HF1.out.err, HT1.out.set⟩
set_option maxHeartbeats 1000000 in
set_option maxRecDepth 100000 in
theorem label_rd {w : World} {f b : Nat} {l : List Int} {e : Int} (hF : Fd w f b l e) : Calls Tryz.prog 115 #[.pointer (some ⟨f, 0, none⟩)] w fun x w' => x = .returned (.string (lbP l e).1) ∧ Fd w' f b (lbP l e).2.1 (lbP l e).2.2 ∧ Turn f b w w' := by
  obtain ⟨y0, y1, y2, f0, f1, f2⟩ := blk3 hF.1
  have h113 := rbytes_any b f 12 l w hF.2.1 (by omega) hF.2.2
  have hlen := rbytes_len 12 l
  unfold lbP
  by_cases he : e ≠ 0
  · rw [if_pos he]
    have he2 : (e == 0) = false := by rw [beq_eq_false_iff_ne]; exact he
    clear h113
    go_enter Tryz.func115, Tryz.ntmps115
    go_wp2
    go_ret
    exact ⟨rfl, hF, Only.refl _ _⟩
  · rw [if_neg he]
    have he0 : e = 0 := by omega
    subst he0
    clear he
    generalize (rbytes 12 l).1 = N at h113 ⊢
    generalize (rbytes 12 l).2.2 = L at h113 hlen ⊢
    generalize (rbytes 12 l).2.1 = E at h113 ⊢
    have HF := hide hF
    clear hF
    go_enter Tryz.func115, Tryz.ntmps115
    go_wp2_with (go_at_call 113; refine h113.mono ?_; rintro x w1 ⟨ao, cap, rfl, hO1, hn1, hR1, hg1⟩; have HF1 := hide (HF.out.num hg1 hR1 hlen); have HT1 := hide (Turn.num (f := f) hg1); obtain ⟨x0, x1, x2, g0, g1, g2⟩ := blk3 HF1.out.1; have hrd : Rd (w1.setCell ⟨f, 2, none⟩ (.int .i64 E)) ao N := hO1.rd.grown (grown_set w1 f 2 _) (fun a ha q => by (have := (hO1.blk a ha).1; have := HF.out.lt; cases q; omega)); have hcv := conv_rd (n := N.length) (cap := cap) hrd rfl; clear hR1 hg1 y0 y1 y2 f0 f1 f2 hO1 hrd)
    go_ret
    exact ⟨rfl, HF1.out.err, HT1.out.set⟩
/-- What a branch, a name, a stamp are read as. -/
def brP (l : List Int) (e : Int) : (Nat × ByteArray) × List Int × Int := (((upP 7 l e).1, (lbP (upP 7 l e).2.1 (upP 7 l e).2.2).1), (lbP (upP 7 l e).2.1 (upP 7 l e).2.2).2)
def nmP (l : List Int) (e : Int) : (Nat × ByteArray × Nat) × List Int × Int := (((brP l e).1.1, (brP l e).1.2, (upP 4611686018427387904 (brP l e).2.1 (brP l e).2.2).1), (upP 4611686018427387904 (brP l e).2.1 (brP l e).2.2).2)
def stP (l : List Int) (e : Int) : (Nat × Nat × ByteArray × Nat × Nat) × List Int × Int :=
  let u := upP 4611686018427387904 l e
  let v := nmP u.2.1 u.2.2
  let x := upP 63 v.2.1 v.2.2
  ((u.1, v.1.1, v.1.2.1, v.1.2.2, x.1), x.2)
theorem Turn.alloc {f b : Nat} {w w' : World} (h : Turn f b w w') (o : Obj) : Turn f b w (w'.alloc o) := Only.alloc h o
theorem Only.new {f b k j : Nat} {w w' : World} (h : Turn f b w w') (hk : w.heap.size ≤ k) (v : Value) : Turn f b w (w'.setCell ⟨k, j, none⟩ v) := Only.setCell h _ v (fun q => by (simp at q; omega))
theorem Turn.ofNew (f b : Nat) (w : World) (o : Obj) : Turn f b w (w.alloc o) := Turn.alloc (Only.refl _ _) o
set_option maxHeartbeats 1000000 in
set_option maxRecDepth 100000 in
theorem branch_rd {w : World} {f b : Nat} {l : List Int} {e : Int} (hF : Fd w f b l e) : Calls Tryz.prog 82 #[.pointer (some ⟨f, 0, none⟩)] w fun x w' => x = .returned (bv (brP l e).1.1 (brP l e).1.2) ∧ Fd w' f b (brP l e).2.1 (brP l e).2.2 ∧ Turn f b w w' := by
  have hlt := hF.lt
  have hn := heap_alloc_new w (.cells #[.int .i64 0, .string ⟨#[]⟩] 23)
  have h1 := upTo_any 7 (by omega) (hF.alloc (.cells #[.int .i64 0, .string ⟨#[]⟩] 23))
  have hle := upP_le 7 l e
  unfold brP
  simp only
  obtain ⟨N, hN⟩ : ∃ N, N = (upP 7 l e).1 := ⟨_, rfl⟩
  rw [← hN] at h1 hle
  rw [← hN]
  generalize (upP 7 l e).2.1 = l1 at h1 ⊢
  generalize (upP 7 l e).2.2 = e1 at h1 ⊢
  have h2 : ∀ W, Fd W f b l1 e1 → Calls Tryz.prog 115 #[.pointer (some ⟨f, 0, none⟩)] W fun x w' => x = .returned (.string (lbP l1 e1).1) ∧ Fd w' f b (lbP l1 e1).2.1 (lbP l1 e1).2.2 ∧ Turn f b W w' := fun W h => label_rd h
  generalize (lbP l1 e1).1 = LB at h2 ⊢
  generalize (lbP l1 e1).2.1 = l2 at h2 ⊢
  generalize (lbP l1 e1).2.2 = e2 at h2 ⊢
  have wn : IntKind.i64.wrap (N : Int) = (N : Int) := by rw [IntKind.wrap_i64]; omega
  have HT0 := hide (Turn.ofNew f b w (.cells #[.int .i64 0, .string ⟨#[]⟩] 23))
  have hz0 : w.heap.size < (w.alloc (.cells #[.int .i64 0, .string ⟨#[]⟩] 23)).heap.size := by simp
  clear hN hF
  go_enter Tryz.func82, Tryz.ntmps82
  go_wp2_with (go_at_call 114; refine h1.mono ?_; rintro x w1 ⟨rfl, hF1, t1⟩; have HF1 := hide hF1; have HT1 := hide (HT0.out.trans' (t1.mono (fun _ _ c => c))); have hn1 := (t1.block w.heap.size hz0 (by omega)).trans hn; have hz1 := Nat.lt_of_lt_of_le hz0 t1.size; clear hF1 t1)
  go_wp2_with (go_at_call 115; refine (h2 _ HF1.out).mono ?_; rintro x w2 ⟨rfl, hF2, t2⟩; have HF2 := hide hF2; have HT2 := hide (HT1.out.trans' t2); have HN2 := hide ((t2.block w.heap.size hz1 (by omega)).trans hn1); obtain ⟨x0, x1, g0, g1⟩ := blk2 HN2.out; clear hF2 t2)
  refine ret_row w.heap.size [.int .i64 (N : Int), .string LB] rfl rfl Tryz.underlying23 rfl (by kernel_rfl) (t := 23) (fr := (0, 0)) (set2 HN2.out) rfl ?_
  exact ⟨rfl, (HF2.out.set (by omega) _).set (by omega) _, (HT2.out.new (Nat.le_refl _) _).new (Nat.le_refl _) _⟩
set_option maxHeartbeats 1000000 in
set_option maxRecDepth 100000 in
theorem name_rd {w : World} {f b : Nat} {l : List Int} {e : Int} (hF : Fd w f b l e) : Calls Tryz.prog 85 #[.pointer (some ⟨f, 0, none⟩)] w fun x w' => x = .returned (nv (nmP l e).1.1 (nmP l e).1.2.1 (nmP l e).1.2.2) ∧ Fd w' f b (nmP l e).2.1 (nmP l e).2.2 ∧ Turn f b w w' := by
  have hlt := hF.lt
  have hn := heap_alloc_new w (.cells #[.int .i64 0, .string ⟨#[]⟩, .int .i64 0] 25)
  have h1 := branch_rd (hF.alloc (.cells #[.int .i64 0, .string ⟨#[]⟩, .int .i64 0] 25))
  unfold nmP
  simp only
  obtain ⟨r, hr⟩ : ∃ r : Int, r = ((brP l e).1.1 : Int) := ⟨_, rfl⟩
  rw [← hr] at h1
  rw [← hr]
  generalize (brP l e).1.2 = lb at h1 ⊢
  generalize (brP l e).2.1 = l2 at h1 ⊢
  generalize (brP l e).2.2 = e2 at h1 ⊢
  have hle := upP_le 4611686018427387904 l2 e2
  have wn : IntKind.i64.wrap ((upP 4611686018427387904 l2 e2).1 : Int) = ((upP 4611686018427387904 l2 e2).1 : Int) := by rw [IntKind.wrap_i64]; omega
  have HT0 := hide (Turn.ofNew f b w (.cells #[.int .i64 0, .string ⟨#[]⟩, .int .i64 0] 25))
  have hz0 : w.heap.size < (w.alloc (.cells #[.int .i64 0, .string ⟨#[]⟩, .int .i64 0] 25)).heap.size := by simp
  clear hr hF hle
  go_enter Tryz.func85, Tryz.ntmps85
  go_wp2_with (go_at_call 82; refine h1.mono ?_; rintro x w1 ⟨rfl, hF1, t1⟩; have HF1 := hide hF1; have HT1 := hide (HT0.out.trans' (t1.mono (fun _ _ c => c))); have HN1 := hide ((t1.block w.heap.size hz0 (by omega)).trans hn); have hz1 := Nat.lt_of_lt_of_le hz0 t1.size; clear hF1 t1)
  have hn3 := heap_alloc_new w1 (.cells #[.int .i64 r, .string lb] 23)
  obtain ⟨y0, y1, _, _⟩ := blk2 hn3
  have hF4 : Fd (w1.alloc (.cells #[.int .i64 r, .string lb] 23)).drew f b l2 e2 := (HF1.out.alloc _).drew
  have hN4 : (w1.alloc (.cells #[.int .i64 r, .string lb] 23)).drew.heap[w.heap.size]? = some (.cells #[.int .i64 0, .string ⟨#[]⟩, .int .i64 0] 25 (0, 0)) := (Below.heap_alloc w1 _ _ hz1).trans HN1.out
  have hT4 : Turn f b w (w1.alloc (.cells #[.int .i64 r, .string lb] 23)).drew := Only.drew (HT1.out.alloc _)
  have hz4 : w.heap.size < (w1.alloc (.cells #[.int .i64 r, .string lb] 23)).drew.heap.size := by show _ < (w1.alloc _).heap.size; simp; omega
  have hCn : ¬ (w1.heap.size = f ∨ w1.heap.size = b) := by omega
  have hQn : ¬ (w.heap.size = f ∨ w.heap.size = b) := by omega
  have hne : w.heap.size ≠ w1.heap.size := by omega
  generalize (w1.alloc (.cells #[.int .i64 r, .string lb] 23)) = W at y0 y1 hF4 hN4 hT4 hz4 ⊢
  generalize w1.heap.size = Bq at y0 y1 hCn hne ⊢
  have hS1 : W.drew.cell? ⟨Bq, 0, none⟩ = some (.int .i64 r) ∧ W.drew.cell? ⟨Bq, 1, none⟩ = some (.string lb) := ⟨y0, y1⟩
  clear y0 y1 h1 hn hn3
  refine wp_region_held_drew (S := (fun w' => w'.cell? ⟨Bq, 0, none⟩ = some (.int .i64 r) ∧ w'.cell? ⟨Bq, 1, none⟩ = some (.string lb))) (by kernel_rfl) (by exact hS1) (fun hHeld => ?_)
  try dsimp only at hHeld
  generalize W.drew = W1 at hHeld hF4 hN4 hT4 hz4 ⊢
  refine take_op (i := 0) (d := 6) (OP := Op.load 23 (Operand.tmp 3)) (T := 23) (v := ?vy1x) rfl rfl rfl rfl (by kernel_rfl) (by kernel_rfl) (by kernel_rfl) (fun _ _ _ h => h) (by rfl) ?hy1x hHeld ?ry1x
  case hy1x => (intro w' hSw; (try dsimp only at hSw); go_simp <;> with_reducible rfl)
  try simp only [Act.put, List.setIfInBounds_toArray, List.set_cons_zero, List.set_cons_succ]
  refine take_op (i := 1) (d := 7) (OP := Op.move (Operand.tmp 0)) (T := 107) (v := ?vy2x) rfl rfl rfl rfl (by kernel_rfl) (by kernel_rfl) (by kernel_rfl) (fun _ _ _ h => h) (by rfl) ?hy2x hHeld ?ry2x
  case hy2x => (intro w' hSw; (try dsimp only at hSw); go_simp <;> with_reducible rfl)
  try simp only [Act.put, List.setIfInBounds_toArray, List.set_cons_zero, List.set_cons_succ]
  refine call_op (i := 2) (d := 8) (OP := Op.call { callee := Callee.value (Operand.func 114), args := #[Operand.tmp 7, Operand.const (Value.int IntKind.u64 4611686018427387904)], argTypes := #[107, 54] }) (T := 54) (f := 114) (args := #[.pointer (some ⟨f, 0, none⟩), .int .u64 4611686018427387904]) rfl rfl rfl rfl (by kernel_rfl) (by rfl) (by go_simp) ?_
  refine (upTo_any 4611686018427387904 (by omega) hF4).mono ?_
  rintro e w5 ⟨rfl, hF5, t5⟩
  have hS5 : w5.cell? ⟨Bq, 0, none⟩ = some (.int .i64 r) ∧ w5.cell? ⟨Bq, 1, none⟩ = some (.string lb) := ⟨t5.cell hHeld.1 hCn, t5.cell hHeld.2 hCn⟩
  refine ⟨_, rfl, hS5, ?_⟩
  replace hHeld := hS5
  try simp only [Act.put, List.setIfInBounds_toArray, List.set_cons_zero, List.set_cons_succ]
  have hN5 := (t5.block _ hz4 hQn).trans hN4
  have hT5 := hT4.trans' t5
  have hz5 := Nat.lt_of_lt_of_le hz4 t5.size
  skip
  refine take_op (i := 3) (d := 9) (OP := Op.convert 54 2 (Operand.tmp 8)) (T := 2) (v := ?vy3x) rfl rfl rfl rfl (by kernel_rfl) (by kernel_rfl) (by kernel_rfl) (fun _ _ _ h => h) (by rfl) ?hy3x hHeld ?ry3x
  case hy3x => (intro w' hSw; (try dsimp only at hSw); go_simp <;> with_reducible rfl)
  try simp only [Act.put, List.setIfInBounds_toArray, List.set_cons_zero, List.set_cons_succ]
  refine take_op (i := 4) (d := 10) (OP := Op.build 25 #[(0, Operand.tmp 6), (1, Operand.tmp 9)]) (T := 25) (v := ?vy4x) rfl rfl rfl rfl (by kernel_rfl) (by kernel_rfl) (by kernel_rfl) (fun _ _ _ h => h) (by rfl) ?hy4x hHeld ?ry4x
  case hy4x => (intro w' hSw; (try dsimp only at hSw); go_simp <;> with_reducible rfl)
  try simp only [Act.put, List.setIfInBounds_toArray, List.set_cons_zero, List.set_cons_succ]
  obtain ⟨z0, z1, z2, zf0, zf1, zf2⟩ := blk3 hN5
  have hx8 : (((w5.setCell ⟨w.heap.size, 0, none⟩ (.int .i64 r)).setCell ⟨w.heap.size, 1, none⟩ (.string lb)).setCell ⟨w.heap.size, 2, none⟩ (.int .i64 ((upP 4611686018427387904 l2 e2).1 : Int))).cell? ⟨Bq, 0, none⟩ = some (.int .i64 r) ∧ (((w5.setCell ⟨w.heap.size, 0, none⟩ (.int .i64 r)).setCell ⟨w.heap.size, 1, none⟩ (.string lb)).setCell ⟨w.heap.size, 2, none⟩ (.int .i64 ((upP 4611686018427387904 l2 e2).1 : Int))).cell? ⟨Bq, 1, none⟩ = some (.string lb) := ⟨by rw [set3_other hne]; exact hHeld.1, by rw [set3_other hne]; exact hHeld.2⟩
  refine skip_op (i := 5) (OP := Op.store 25 (Operand.tmp 2) (Operand.tmp 10)) (T := 0) (w' := (((w5.setCell ⟨w.heap.size, 0, none⟩ (.int .i64 r)).setCell ⟨w.heap.size, 1, none⟩ (.string lb)).setCell ⟨w.heap.size, 2, none⟩ (.int .i64 ((upP 4611686018427387904 l2 e2).1 : Int)))) rfl rfl rfl rfl (by kernel_rfl) (by rfl) (by go_simp) ⟨hx8, ?_⟩
  refine wpAnyH_done (by kernel_rfl) ?_ _
  go_wp2
  refine ret_row w.heap.size [.int .i64 r, .string lb, .int .i64 ((upP 4611686018427387904 l2 e2).1 : Int)] rfl rfl Tryz.underlying25 rfl (by kernel_rfl) (t := 25) (fr := (0, 0)) (set3 hN5) rfl ?_
  exact ⟨rfl, ((hF5.set (by omega) _).set (by omega) _).set (by omega) _, ((hT5.new (Nat.le_refl _) _).new (Nat.le_refl _) _).new (Nat.le_refl _) _⟩
set_option maxHeartbeats 2000000 in
set_option maxRecDepth 100000 in
theorem stamp_rd {w : World} {f b : Nat} {l : List Int} {e : Int} (hF : Fd w f b l e) : Calls Tryz.prog 88 #[.pointer (some ⟨f, 0, none⟩)] w fun x w' => x = .returned (sv (stP l e).1.1 (stP l e).1.2.1 (stP l e).1.2.2.1 (stP l e).1.2.2.2.1 (stP l e).1.2.2.2.2) ∧ Fd w' f b (stP l e).2.1 (stP l e).2.2 ∧ Turn f b w w' := by
  have hlt := hF.lt
  have hn := heap_alloc_new w (.cells #[.int .i64 0, .int .i64 0, .string ⟨#[]⟩, .int .i64 0, .int .i64 0] 27)
  have h1 := upTo_any 4611686018427387904 (by omega) (hF.alloc (.cells #[.int .i64 0, .int .i64 0, .string ⟨#[]⟩, .int .i64 0, .int .i64 0] 27))
  have hle1 := upP_le 4611686018427387904 l e
  unfold stP
  simp only
  obtain ⟨gg, hg⟩ : ∃ gg : Int, gg = ((upP 4611686018427387904 l e).1 : Int) := ⟨_, rfl⟩
  rw [← hg] at h1
  rw [← hg]
  have wg : IntKind.i64.wrap gg = gg := by rw [IntKind.wrap_i64]; omega
  generalize (upP 4611686018427387904 l e).2.1 = l1 at h1 ⊢
  generalize (upP 4611686018427387904 l e).2.2 = e1 at h1 ⊢
  have h2 : ∀ W, Fd W f b l1 e1 → Calls Tryz.prog 85 #[.pointer (some ⟨f, 0, none⟩)] W fun x w' => x = .returned (nv (nmP l1 e1).1.1 (nmP l1 e1).1.2.1 (nmP l1 e1).1.2.2) ∧ Fd w' f b (nmP l1 e1).2.1 (nmP l1 e1).2.2 ∧ Turn f b W w' := fun W h => name_rd h
  obtain ⟨r, hr⟩ : ∃ r : Int, r = ((nmP l1 e1).1.1 : Int) := ⟨_, rfl⟩
  obtain ⟨n, hnn⟩ : ∃ n : Int, n = ((nmP l1 e1).1.2.2 : Int) := ⟨_, rfl⟩
  rw [← hr, ← hnn] at h2
  rw [← hr, ← hnn]
  generalize (nmP l1 e1).1.2.1 = lb at h2 ⊢
  generalize (nmP l1 e1).2.1 = l3 at h2 ⊢
  generalize (nmP l1 e1).2.2 = e3 at h2 ⊢
  have hle := upP_le 63 l3 e3
  have wn : IntKind.i64.wrap ((upP 63 l3 e3).1 : Int) = ((upP 63 l3 e3).1 : Int) := by rw [IntKind.wrap_i64]; omega
  have HT0 := hide (Turn.ofNew f b w (.cells #[.int .i64 0, .int .i64 0, .string ⟨#[]⟩, .int .i64 0, .int .i64 0] 27))
  have hz0 : w.heap.size < (w.alloc (.cells #[.int .i64 0, .int .i64 0, .string ⟨#[]⟩, .int .i64 0, .int .i64 0] 27)).heap.size := by simp
  clear hr hF hle hg hnn hle1
  go_enter Tryz.func88, Tryz.ntmps88
  go_wp2_with (go_at_call 114; refine h1.mono ?_; rintro x w1 ⟨rfl, hF1, t1⟩; have HF1 := hide hF1; have HT1 := hide (HT0.out.trans' (t1.mono (fun _ _ c => c))); have HN1 := hide ((t1.block w.heap.size hz0 (by omega)).trans hn); have hz1 := Nat.lt_of_lt_of_le hz0 t1.size; clear hF1 t1)
  go_wp2_with (go_at_call 85; refine (h2 _ HF1.out).mono ?_; rintro x w2 ⟨rfl, hF2, t2⟩; have HF2 := hide hF2; have HT2 := hide (HT1.out.trans' t2); have HN2 := hide ((t2.block w.heap.size hz1 (by omega)).trans HN1.out); have hz2 := Nat.lt_of_lt_of_le hz1 t2.size; clear hF2 t2)
  have hn3 := heap_alloc_new w2 (.cells #[.int .i64 r, .string lb, .int .i64 n] 25)
  obtain ⟨y0, y1, y2, _, _, _⟩ := blk3 hn3
  have hF4 : Fd (w2.alloc (.cells #[.int .i64 r, .string lb, .int .i64 n] 25)).drew f b l3 e3 := (HF2.out.alloc _).drew
  have hN4 : (w2.alloc (.cells #[.int .i64 r, .string lb, .int .i64 n] 25)).drew.heap[w.heap.size]? = some (.cells #[.int .i64 0, .int .i64 0, .string ⟨#[]⟩, .int .i64 0, .int .i64 0] 27 (0, 0)) := (Below.heap_alloc w2 _ _ hz2).trans HN2.out
  have hT4 : Turn f b w (w2.alloc (.cells #[.int .i64 r, .string lb, .int .i64 n] 25)).drew := Only.drew (HT2.out.alloc _)
  have hz4 : w.heap.size < (w2.alloc (.cells #[.int .i64 r, .string lb, .int .i64 n] 25)).drew.heap.size := by show _ < (w2.alloc _).heap.size; simp; omega
  have hCn : ¬ (w2.heap.size = f ∨ w2.heap.size = b) := by omega
  have hQn : ¬ (w.heap.size = f ∨ w.heap.size = b) := by omega
  have hne : w.heap.size ≠ w2.heap.size := by omega
  generalize (w2.alloc (.cells #[.int .i64 r, .string lb, .int .i64 n] 25)) = W at y0 y1 y2 hF4 hN4 hT4 hz4 ⊢
  generalize w2.heap.size = Bq at y0 y1 y2 hCn hne ⊢
  have hS1 : W.drew.cell? ⟨Bq, 0, none⟩ = some (.int .i64 r) ∧ W.drew.cell? ⟨Bq, 1, none⟩ = some (.string lb) ∧ W.drew.cell? ⟨Bq, 2, none⟩ = some (.int .i64 n) := ⟨y0, y1, y2⟩
  clear y0 y1 y2 h1 h2 hn hn3
  refine wp_region_held_drew (S := (fun w' => w'.cell? ⟨Bq, 0, none⟩ = some (.int .i64 r) ∧ w'.cell? ⟨Bq, 1, none⟩ = some (.string lb) ∧ w'.cell? ⟨Bq, 2, none⟩ = some (.int .i64 n))) (by kernel_rfl) (by exact hS1) (fun hHeld => ?_)
  try dsimp only at hHeld
  generalize W.drew = W1 at hHeld hF4 hN4 hT4 hz4 ⊢
  refine take_op (i := 0) (d := 9) (OP := Op.move (Operand.tmp 3)) (T := 54) (v := ?vy5x) rfl rfl rfl rfl (by kernel_rfl) (by kernel_rfl) (by kernel_rfl) (fun _ _ _ h => h) (by rfl) ?hy5x hHeld ?ry5x
  case hy5x => (intro w' hSw; (try dsimp only at hSw); go_simp <;> with_reducible rfl)
  try simp only [Act.put, List.setIfInBounds_toArray, List.set_cons_zero, List.set_cons_succ]
  refine take_op (i := 1) (d := 10) (OP := Op.convert 54 2 (Operand.tmp 9)) (T := 2) (v := ?vy6x) rfl rfl rfl rfl (by kernel_rfl) (by kernel_rfl) (by kernel_rfl) (fun _ _ _ h => h) (by rfl) ?hy6x hHeld ?ry6x
  case hy6x => (intro w' hSw; (try dsimp only at hSw); go_simp <;> with_reducible rfl)
  try simp only [Act.put, List.setIfInBounds_toArray, List.set_cons_zero, List.set_cons_succ]
  refine take_op (i := 2) (d := 11) (OP := Op.load 25 (Operand.tmp 4)) (T := 25) (v := ?vy7x) rfl rfl rfl rfl (by kernel_rfl) (by kernel_rfl) (by kernel_rfl) (fun _ _ _ h => h) (by rfl) ?hy7x hHeld ?ry7x
  case hy7x => (intro w' hSw; (try dsimp only at hSw); go_simp <;> with_reducible rfl)
  try simp only [Act.put, List.setIfInBounds_toArray, List.set_cons_zero, List.set_cons_succ]
  refine take_op (i := 3) (d := 12) (OP := Op.move (Operand.tmp 0)) (T := 107) (v := ?vy8x) rfl rfl rfl rfl (by kernel_rfl) (by kernel_rfl) (by kernel_rfl) (fun _ _ _ h => h) (by rfl) ?hy8x hHeld ?ry8x
  case hy8x => (intro w' hSw; (try dsimp only at hSw); go_simp <;> with_reducible rfl)
  try simp only [Act.put, List.setIfInBounds_toArray, List.set_cons_zero, List.set_cons_succ]
  refine call_op (i := 4) (d := 13) (OP := Op.call { callee := Callee.value (Operand.func 114), args := #[Operand.tmp 12, Operand.const (Value.int IntKind.u64 63)], argTypes := #[107, 54] }) (T := 54) (f := 114) (args := #[.pointer (some ⟨f, 0, none⟩), .int .u64 63]) rfl rfl rfl rfl (by kernel_rfl) (by rfl) (by go_simp) ?_
  refine (upTo_any 63 (by omega) hF4).mono ?_
  rintro e w5 ⟨rfl, hF5, t5⟩
  have hS5 : w5.cell? ⟨Bq, 0, none⟩ = some (.int .i64 r) ∧ w5.cell? ⟨Bq, 1, none⟩ = some (.string lb) ∧ w5.cell? ⟨Bq, 2, none⟩ = some (.int .i64 n) := ⟨t5.cell hHeld.1 hCn, t5.cell hHeld.2.1 hCn, t5.cell hHeld.2.2 hCn⟩
  refine ⟨_, rfl, hS5, ?_⟩
  replace hHeld := hS5
  try simp only [Act.put, List.setIfInBounds_toArray, List.set_cons_zero, List.set_cons_succ]
  have hN5 := (t5.block _ hz4 hQn).trans hN4
  have hT5 := hT4.trans' t5
  have hz5 := Nat.lt_of_lt_of_le hz4 t5.size
  skip
  refine take_op (i := 5) (d := 14) (OP := Op.convert 54 3 (Operand.tmp 13)) (T := 3) (v := ?vy9x) rfl rfl rfl rfl (by kernel_rfl) (by kernel_rfl) (by kernel_rfl) (fun _ _ _ h => h) (by rfl) ?hy9x hHeld ?ry9x
  case hy9x => (intro w' hSw; (try dsimp only at hSw); go_simp <;> with_reducible rfl)
  try simp only [Act.put, List.setIfInBounds_toArray, List.set_cons_zero, List.set_cons_succ]
  refine take_op (i := 6) (d := 15) (OP := Op.build 27 #[(0, Operand.tmp 10), (1, Operand.tmp 11), (2, Operand.tmp 14)]) (T := 27) (v := ?vy10x) rfl rfl rfl rfl (by kernel_rfl) (by kernel_rfl) (by kernel_rfl) (fun _ _ _ h => h) (by rfl) ?hy10x hHeld ?ry10x
  case hy10x => (intro w' hSw; (try dsimp only at hSw); go_simp <;> with_reducible rfl)
  try simp only [Act.put, List.setIfInBounds_toArray, List.set_cons_zero, List.set_cons_succ]
  obtain ⟨z0, z1, z2, z3, z4, zf0, zf1, zf2, zf3, zf4⟩ := blk5 hN5
  have hx8 : (((((w5.setCell ⟨w.heap.size, 0, none⟩ (.int .i64 gg)).setCell ⟨w.heap.size, 1, none⟩ (.int .i64 r)).setCell ⟨w.heap.size, 2, none⟩ (.string lb)).setCell ⟨w.heap.size, 3, none⟩ (.int .i64 n)).setCell ⟨w.heap.size, 4, none⟩ (.int .i64 ((upP 63 l3 e3).1 : Int))).cell? ⟨Bq, 0, none⟩ = some (.int .i64 r) ∧ (((((w5.setCell ⟨w.heap.size, 0, none⟩ (.int .i64 gg)).setCell ⟨w.heap.size, 1, none⟩ (.int .i64 r)).setCell ⟨w.heap.size, 2, none⟩ (.string lb)).setCell ⟨w.heap.size, 3, none⟩ (.int .i64 n)).setCell ⟨w.heap.size, 4, none⟩ (.int .i64 ((upP 63 l3 e3).1 : Int))).cell? ⟨Bq, 1, none⟩ = some (.string lb) ∧ (((((w5.setCell ⟨w.heap.size, 0, none⟩ (.int .i64 gg)).setCell ⟨w.heap.size, 1, none⟩ (.int .i64 r)).setCell ⟨w.heap.size, 2, none⟩ (.string lb)).setCell ⟨w.heap.size, 3, none⟩ (.int .i64 n)).setCell ⟨w.heap.size, 4, none⟩ (.int .i64 ((upP 63 l3 e3).1 : Int))).cell? ⟨Bq, 2, none⟩ = some (.int .i64 n) := ⟨by rw [set5_other hne]; exact hHeld.1, by rw [set5_other hne]; exact hHeld.2.1, by rw [set5_other hne]; exact hHeld.2.2⟩
  refine skip_op (i := 7) (OP := Op.store 27 (Operand.tmp 2) (Operand.tmp 15)) (T := 0) (w' := (((((w5.setCell ⟨w.heap.size, 0, none⟩ (.int .i64 gg)).setCell ⟨w.heap.size, 1, none⟩ (.int .i64 r)).setCell ⟨w.heap.size, 2, none⟩ (.string lb)).setCell ⟨w.heap.size, 3, none⟩ (.int .i64 n)).setCell ⟨w.heap.size, 4, none⟩ (.int .i64 ((upP 63 l3 e3).1 : Int)))) rfl rfl rfl rfl (by kernel_rfl) (by rfl) (by go_simp) ⟨hx8, ?_⟩
  refine wpAnyH_done (by kernel_rfl) ?_ _
  go_wp2
  refine ret_row w.heap.size [.int .i64 gg, .int .i64 r, .string lb, .int .i64 n, .int .i64 ((upP 63 l3 e3).1 : Int)] rfl rfl Tryz.underlying27 rfl (by kernel_rfl) (t := 27) (fr := (0, 0)) (set5 hN5) rfl ?_
  exact ⟨rfl, ((((hF5.set (by omega) _).set (by omega) _).set (by omega) _).set (by omega) _).set (by omega) _, ((((hT5.new (Nat.le_refl _) _).new (Nat.le_refl _) _).new (Nat.le_refl _) _).new (Nat.le_refl _) _).new (Nat.le_refl _) _⟩
end Go.Proofs.YtkjabnpniingnaaGreatDoor
