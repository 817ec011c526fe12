/-
  journal: the closures of gathered, as for queue.
  RISING LISTS, AND TWO OF THEM RUN TOGETHER (for stage 9: plain, of no seat).
  Two rising lists of elements run together over a base: the document's way, plainly.
  The document's find 91; the laws' much 21.
  The document's Elements 67.
-/
import Derived.Test.YtkkpdgfllnbigaaGreatJoA
import Derived.Test.YtkkpdgfllnbigaaGreatMg16
import Derived.Test.YtkkpdgfllnbigaaGreatMg13
import Derived.Test.YtkkpdgfllnbigaaGreatMg11
import Derived.Test.YtkkpdgfllnbigaaGreatMg6
import Derived.Test.YtkkpdgfllnbigaaGreatMg9
import Derived.Test.YtkkpdgfllnbigaaGreatSort1
namespace Go.Proofs.YtkkpdgfllnbigaaGreat.Jo
open Go.RowKit Go.Shelf
set_option linter.unusedSimpArgs false
attribute [local go_sem] Oper.semAt_some

theorem tell123 (s : St) (x : ByteArray) (w : World) : Calls Tryz.prog 158 #[svT s, .string x] w fun e w' => e = .returned (ev (s, x)) ∧ Below w.heap.size w w' := by
  obtain ⟨g, r, l, n, i⟩ := s
  obtain ⟨m0, m1⟩ := new2 w (.cells #[.int .i64 g, .int .i64 r, .string l, .int .i64 n, .int .i64 i] 43) (.cells #[.int .i64 g, .int .i64 r, .string l, .int .i64 n, .int .i64 i, .string x] 53)
  have hb : Below w.heap.size w ((w.alloc (.cells #[.int .i64 g, .int .i64 r, .string l, .int .i64 n, .int .i64 i] 43)).alloc (.cells #[.int .i64 g, .int .i64 r, .string l, .int .i64 n, .int .i64 i, .string x] 53)) := ((Below.refl _ w).alloc (Nat.le_refl _) _).alloc (by simp) _
  have HM := hide (And.intro m1 hb)
  clear m0 m1 hb
  dsimp only [svT]
  go_enter Tryz.func158, Tryz.ntmps158
  go_wp2
  refine ret_row (w.heap.size + 1) (encE ((g, r, l, n, i), x)) rfl rfl Tryz.underlying53 rfl (by kernel_rfl) HM.out.1 rfl ?_
  exact ⟨rfl, HM.out.2⟩
theorem tell125 (s : St) (x : ByteArray) (w : World) : Calls Tryz.prog 160 #[svT s, .string x] w fun e w' => e = .returned (.string x) ∧ Below w.heap.size w w' := by
  obtain ⟨g, r, l, n, i⟩ := s
  dsimp only [svT]
  go_enter Tryz.func160, Tryz.ntmps160
  go_wp2
  go_ret
  exact ⟨rfl, (Below.refl _ w).alloc (Nat.le_refl _) _⟩
set_option maxHeartbeats 8000000 in
set_option maxRecDepth 100000 in
theorem gath159 {W2 : World} {Lb Tb B : Nat} {ao : Option Addr} {cp : Nat} (s : St) (x : ByteArray) (p : List El) (hbox : W2.heap[Lb]? = some (.cells #[.slice ao p.length cp] 22 (0, 0))) (htell : W2.heap[Tb]? = some (.cells #[.func (.func 158) #[] #[]] 149 (0, 0))) (hO : Oe W2 B (.slice ao p.length cp) p) (hLb : Lb < B) (hTb : Tb < B) (hne : Tb ≠ Lb) (hB : B ≤ W2.heap.size) (hp : p.length ≤ 100000) :
    Calls Tryz.prog 198 #[svT s, .string x, .pointer (some ⟨Lb, 0, none⟩), .pointer (some ⟨Tb, 0, none⟩)] W2 fun e W5 => e = .returned (.bool true) ∧ Only (fun j => j = Lb ∨ B ≤ j) W2 W5 ∧ ∃ a' c', W5.heap[Lb]? = some (.cells #[.slice a' (p.length + 1) c'] 22 (0, 0)) ∧ Oe W5 B (.slice a' (p.length + 1) c') (p ++ [(s, x)]) := by
  obtain ⟨sg, sr, sl, sn, si⟩ := s
  obtain ⟨N, hN⟩ : ∃ N, N = p.length := ⟨_, rfl⟩
  obtain ⟨W3, hW3⟩ : ∃ q, q = W2.alloc (.cells #[.int .i64 sg, .int .i64 sr, .string sl, .int .i64 sn, .int .i64 si] 43) := ⟨_, rfl⟩
  have r1 := heap_alloc_new W2 (.cells #[.int .i64 sg, .int .i64 sr, .string sl, .int .i64 sn, .int .i64 si] 43)
  have b1 : Below W2.heap.size W2 W3 := by rw [hW3]; exact (Below.refl _ W2).alloc (Nat.le_refl _) _
  rw [← hW3] at r1
  obtain ⟨Sb, hSb⟩ : ∃ q, q = W2.heap.size := ⟨_, rfl⟩
  rw [← hSb] at r1
  rw [← hN] at hp hbox ⊢
  have bx3 := (b1.block _ (gI hbox).1).trans hbox
  have tb3 := (b1.block _ (gI htell).1).trans htell
  have hS3 : Sb < W3.heap.size := (gI r1).1
  have hO3 := hO.below b1
  have HS : Hid (B ≤ Sb ∧ Sb < W3.heap.size ∧ Lb < B ∧ Tb < B ∧ Tb ≠ Lb ∧ B ≤ W3.heap.size) := hide ⟨by omega, hS3, hLb, hTb, hne, by have := b1.size; omega⟩
  have hown : ∀ k, (Value.slice ao N cp).ownBlock = some k → B ≤ k ∧ k < W2.heap.size := fun k hk => by rw [hN] at hk; exact World.ownsRow.lt hO k hk
  have qd : W3.drew.cell? ⟨Tb, 0, none⟩ = some (.func (.func 158) #[] #[]) ∧ W3.drew.cell? ⟨Sb, 0, none⟩ = some (.int .i64 sg) ∧ W3.drew.cell? ⟨Sb, 1, none⟩ = some (.int .i64 sr) ∧ W3.drew.cell? ⟨Sb, 2, none⟩ = some (.string sl) ∧ W3.drew.cell? ⟨Sb, 3, none⟩ = some (.int .i64 sn) ∧ W3.drew.cell? ⟨Sb, 4, none⟩ = some (.int .i64 si) := ⟨(cell_of_row W3.drew _ 0 _ 149 (0, 0) tb3).trans rfl, (cell_of_row W3.drew _ 0 _ 43 (0, 0) r1).trans rfl, (cell_of_row W3.drew _ 1 _ 43 (0, 0) r1).trans rfl, (cell_of_row W3.drew _ 2 _ 43 (0, 0) r1).trans rfl, (cell_of_row W3.drew _ 3 _ 43 (0, 0) r1).trans rfl, (cell_of_row W3.drew _ 4 _ 43 (0, 0) r1).trans rfl⟩
  have lc : W3.drew.cell? ⟨Lb, 0, none⟩ = some (.slice ao N cp) := (cell_of_row W3.drew _ 0 _ 22 (0, 0) bx3).trans rfl
  have hT := fun W' => tell123 (sg, sr, sl, sn, si) x W'
  dsimp only [svT] at hT
  have ends : ∀ w5 a' c' w7, Below W3.heap.size W3 w5 → Oe w7 B (.slice a' (N + 1) c') (p ++ [((sg, sr, sl, sn, si), x)]) → Only (fun k => (Value.slice ao N cp).ownBlock = some k) w5 w7 →
      (∀ y, (w7.setCell ⟨Lb, 0, none⟩ y).cell? ⟨Tb, 0, none⟩ = w5.cell? ⟨Tb, 0, none⟩ ∧ ∀ i, (w7.setCell ⟨Lb, 0, none⟩ y).cell? ⟨Sb, i, none⟩ = w5.cell? ⟨Sb, i, none⟩) ∧ w7.cell? ⟨Tb, 0, none⟩ = w5.cell? ⟨Tb, 0, none⟩ ∧ (∀ i, w7.cell? ⟨Sb, i, none⟩ = w5.cell? ⟨Sb, i, none⟩) ∧
      w7.cell? ⟨Lb, 0, none⟩ = some (.slice ao N cp) ∧ w7.frozen? ⟨Lb, 0, none⟩ = false ∧ Only (fun j => j = Lb ∨ B ≤ j) W2 (w7.setCell ⟨Lb, 0, none⟩ (.slice a' (N + 1) c')) ∧ (w7.setCell ⟨Lb, 0, none⟩ (.slice a' (N + 1) c')).heap[Lb]? = some (.cells #[.slice a' (N + 1) c'] 22 (0, 0)) ∧ Oe (w7.setCell ⟨Lb, 0, none⟩ (.slice a' (N + 1) c')) B (.slice a' (N + 1) c') (p ++ [((sg, sr, sl, sn, si), x)]) := fun w5 a' c' w7 b5 hO7 ho7 => by
    have hs := HS.out
    have hsz5 := b5.size
    have hsz7 := ho7.size
    have hlt3 := (gI bx3).1
    have hT7 : w7.cell? ⟨Tb, 0, none⟩ = w5.cell? ⟨Tb, 0, none⟩ := World.cell?_of_block (ho7.block Tb (by omega) (fun e => by have := hown Tb e; omega))
    have hS7 : ∀ i, w7.cell? ⟨Sb, i, none⟩ = w5.cell? ⟨Sb, i, none⟩ := fun i => World.cell?_of_block (ho7.block Sb (by omega) (fun e => by have := hown Sb e; omega))
    have bx5 := (b5.block _ hlt3).trans bx3
    have bx7 := (ho7.block Lb (by omega) (fun e => by have := hown Lb e; omega)).trans bx5
    obtain ⟨s9, o9⟩ := set_one (i := 0) (.slice a' (N + 1) c') bx7
    have o57 : Only (fun j => j = Lb ∨ B ≤ j) W2 w7 := (below_only (b1.trans (b5.mono b1.size))).next (ho7.mono (fun j _ e => .inr (hown j e).1))
    refine ⟨fun y => ?_, hT7, hS7, (cell_of_row _ _ 0 _ 22 (0, 0) bx7).trans rfl, frozen_of_row _ _ 0 _ 22 bx7, o57.next (o9.mono (fun j _ e => .inl e)), by simpa using s9, ?_⟩
    · obtain ⟨-, oy⟩ := set_one (i := 0) y bx7
      exact ⟨(World.cell?_of_block (oy.block Tb (by omega) (fun e => by have e' : Tb = Lb := e; omega))).trans hT7, fun i => (World.cell?_of_block (oy.block Sb (by omega) (fun e => by have e' : Sb = Lb := e; omega))).trans (hS7 i)⟩
    · exact hO7.only o9 (fun k hk e => by
        have := World.ownsRow.lt hO7 k hk
        have e' : k = Lb := e
        omega)
  have HE := hide ends
  have HO : Hid (∀ w5, Below W3.heap.size W3 w5 → Oe w5 B (.slice ao p.length cp) p) := hide (fun w5 b5 => hO3.below b5)
  have HN := hide hN
  have HNB := hide hp
  have HW3 := hide (And.intro hW3 hSb)
  have b0 : Below W3.heap.size W3 W3.drew := drew_below W3
  clear ends hO3 hO hbox htell hLb hTb hne hB hp hN hW3 r1 b1 hSb bx3 tb3 hS3 hown
  dsimp only [svT, sv]
  go_enter Tryz.func198, Tryz.ntmps198
  go_upto_region 1 with fail
  rw [← HW3.out.1, ← HW3.out.2]
  refine wp_region_held_drew (S := fun w' => w'.cell? ⟨Tb, 0, none⟩ = some (.func (.func 158) #[] #[]) ∧ w'.cell? ⟨Sb, 0, none⟩ = some (.int .i64 sg) ∧ w'.cell? ⟨Sb, 1, none⟩ = some (.int .i64 sr) ∧ w'.cell? ⟨Sb, 2, none⟩ = some (.string sl) ∧ w'.cell? ⟨Sb, 3, none⟩ = some (.int .i64 sn) ∧ w'.cell? ⟨Sb, 4, none⟩ = some (.int .i64 si)) (by kernel_rfl) qd (fun hHeld => ?_)
  clear qd
  try dsimp only at hHeld
  generalize W3.drew = Wd at hHeld lc b0 ⊢
  refine take_op (i := 1) (d := 8) (OP := Op.load 149 (Operand.tmp 3)) (T := 149) (v := ?vzg1) rfl rfl rfl rfl (by kernel_rfl) (by kernel_rfl) (by kernel_rfl) (fun _ _ _ h => h) (by rfl) ?hzg1 hHeld ?rzg1
  case hzg1 => (intro w' hSw; (try dsimp only at hSw); go_simp <;> with_reducible rfl)
  try simp only [Act.put, sI, sZ, sS]
  refine take_op (i := 2) (d := 9) (OP := Op.load 43 (Operand.tmp 4)) (T := 43) (v := ?vzg2) rfl rfl rfl rfl (by kernel_rfl) (by kernel_rfl) (by kernel_rfl) (fun _ _ _ h => h) (by rfl) ?hzg2 hHeld ?rzg2
  case hzg2 => (intro w' hSw; (try dsimp only at hSw); go_simp <;> with_reducible rfl)
  try simp only [Act.put, sI, sZ, sS]
  refine take_op (i := 3) (d := 10) (OP := Op.move (Operand.tmp 1)) (T := 9) (v := ?vzg3) rfl rfl rfl rfl (by kernel_rfl) (by kernel_rfl) (by kernel_rfl) (fun _ _ _ h => h) (by rfl) ?hzg3 hHeld ?rzg3
  case hzg3 => (intro w' hSw; (try dsimp only at hSw); go_simp <;> with_reducible rfl)
  try simp only [Act.put, sI, sZ, sS]
  refine load_call_op (i := 0) (di := 7) (OPi := Op.load 22 (Operand.tmp 2)) (Ti := 22) (j := 4) (dj := 11) (OPj := Op.call { callee := Callee.value (Operand.tmp 8), args := #[Operand.tmp 9, Operand.tmp 10], argTypes := #[43, 9] }) (Tj := 53) (f := 158) (args := #[.agg #[.int .i64 sg, .int .i64 sr, .string sl, .int .i64 sn, .int .i64 si], .string x]) (u := .slice ao N cp) rfl rfl rfl rfl rfl rfl rfl rfl (by kernel_rfl) (by rfl) (by rfl) (by go_simp) (by go_simp) hHeld ?_ ?_
  · try simp only [Act.put, sI, sZ, sS]
    refine call_op (i := 4) (d := 11) (OP := Op.call { callee := Callee.value (Operand.tmp 8), args := #[Operand.tmp 9, Operand.tmp 10], argTypes := #[43, 9] }) (T := 53) (f := 158) (args := #[.agg #[.int .i64 sg, .int .i64 sr, .string sl, .int .i64 sn, .int .i64 si], .string x]) rfl rfl rfl rfl (by kernel_rfl) (by rfl) (by go_simp) ?_
    refine (hT _).mono ?_
    rintro e z4 ⟨rfl, b4⟩
    have h4 : z4.cell? ⟨Tb, 0, none⟩ = some (.func (.func 158) #[] #[]) ∧ z4.cell? ⟨Sb, 0, none⟩ = some (.int .i64 sg) ∧ z4.cell? ⟨Sb, 1, none⟩ = some (.int .i64 sr) ∧ z4.cell? ⟨Sb, 2, none⟩ = some (.string sl) ∧ z4.cell? ⟨Sb, 3, none⟩ = some (.int .i64 sn) ∧ z4.cell? ⟨Sb, 4, none⟩ = some (.int .i64 si) := ⟨cell_stays hHeld.1 b4, cell_stays hHeld.2.1 b4, cell_stays hHeld.2.2.1 b4, cell_stays hHeld.2.2.2.1 b4, cell_stays hHeld.2.2.2.2.1 b4, cell_stays hHeld.2.2.2.2.2 b4⟩
    have lc4 := cell_stays lc b4
    have bb4 := b0.trans (b4.mono b0.size)
    refine ⟨_, rfl, h4, ?_⟩
    try simp only [Act.put, sI, sZ, sS]
    obtain ⟨z5, hz5⟩ : ∃ q, q = z4.alloc (.cells (encE ((sg, sr, sl, sn, si), x)).toArray 53) := ⟨_, rfl⟩
    have r5 := heap_alloc_new z4 (.cells (encE ((sg, sr, sl, sn, si), x)).toArray 53)
    rw [← hz5] at r5
    have b5 : Below z4.heap.size z4 z5 := by rw [hz5]; exact (Below.refl _ z4).alloc (Nat.le_refl _) _
    have h5 : z5.cell? ⟨Tb, 0, none⟩ = some (.func (.func 158) #[] #[]) ∧ z5.cell? ⟨Sb, 0, none⟩ = some (.int .i64 sg) ∧ z5.cell? ⟨Sb, 1, none⟩ = some (.int .i64 sr) ∧ z5.cell? ⟨Sb, 2, none⟩ = some (.string sl) ∧ z5.cell? ⟨Sb, 3, none⟩ = some (.int .i64 sn) ∧ z5.cell? ⟨Sb, 4, none⟩ = some (.int .i64 si) := ⟨cell_stays h4.1 b5, cell_stays h4.2.1 b5, cell_stays h4.2.2.1 b5, cell_stays h4.2.2.2.1 b5, cell_stays h4.2.2.2.2.1 b5, cell_stays h4.2.2.2.2.2 b5⟩
    have bz5 := bb4.trans (b5.mono bb4.size)
    have lc5 := cell_stays lc4 b5
    refine turn_op (i := 5) (d := 12) (OP := Op.buildSlice 22 1 #[(0, Operand.tmp 11)]) (T := 22) (v := .slice (some ⟨z4.heap.size, 0, none⟩) 1 1) (w' := z5) rfl rfl rfl rfl (by kernel_rfl) (by rfl) (by rw [hz5]; exact exec_bs53 rfl) h5 ?_
    try simp only [Act.put, sI, sZ, sS]
    obtain ⟨a', c', w7, hrun, hO7, ho7⟩ := push_Oe (y := ((sg, sr, sl, sn, si), x)) (HO.out z5 bz5) r5 (by rw [← HN.out]; have := HNB.out; omega) (by have := bz5.size; have := HS.out; omega)
    rw [← HN.out] at hrun hO7 ho7
    obtain ⟨e1, e2, e3, e4, e5, e6, e7⟩ := HE.out z5 a' c' w7 bz5 hO7 ho7
    refine turn_op (i := 6) (d := 13) (OP := Op.call { callee := Callee.builtin Builtin.append, args := #[Operand.tmp 7, Operand.tmp 12], argTypes := #[22, 22] }) (T := 22) (v := .slice a' (N + 1) c') (w' := w7) rfl rfl rfl rfl (by kernel_rfl) (by rfl) (exec_append rfl rfl hrun) ⟨e2.trans h5.1, (e3 0).trans h5.2.1, (e3 1).trans h5.2.2.1, (e3 2).trans h5.2.2.2.1, (e3 3).trans h5.2.2.2.2.1, (e3 4).trans h5.2.2.2.2.2⟩ ?_
    try simp only [Act.put, sI, sZ, sS]
    refine skip_op (i := 7) (OP := Op.store 22 (Operand.tmp 2) (Operand.tmp 13)) (T := 0) (w' := w7.setCell ⟨Lb, 0, none⟩ (.slice a' (N + 1) c')) rfl rfl rfl rfl (by kernel_rfl) (by rfl) (exec_st22 rfl rfl e4 e5) ⟨⟨((e1 _).1).trans h5.1, ((e1 _).2 0).trans h5.2.1, ((e1 _).2 1).trans h5.2.2.1, ((e1 _).2 2).trans h5.2.2.2.1, ((e1 _).2 3).trans h5.2.2.2.2.1, ((e1 _).2 4).trans h5.2.2.2.2.2⟩, ?_⟩
    try simp only [Act.put, sI, sZ, sS]
    refine wpAnyH_done (by kernel_rfl) ?_ _
    have HF := hide (And.intro e6 e7)
    clear e1 e2 e3 e4 e5 e6 e7 hrun hO7 ho7 h5 r5 bz5 HE HO hT lc
    go_wp2
    go_ret
    exact ⟨rfl, HF.out.1, _, _, HF.out.2⟩
  · skip
    refine (hT _).mono ?_
    rintro e z4 ⟨rfl, b4⟩
    have h4 : z4.cell? ⟨Tb, 0, none⟩ = some (.func (.func 158) #[] #[]) ∧ z4.cell? ⟨Sb, 0, none⟩ = some (.int .i64 sg) ∧ z4.cell? ⟨Sb, 1, none⟩ = some (.int .i64 sr) ∧ z4.cell? ⟨Sb, 2, none⟩ = some (.string sl) ∧ z4.cell? ⟨Sb, 3, none⟩ = some (.int .i64 sn) ∧ z4.cell? ⟨Sb, 4, none⟩ = some (.int .i64 si) := ⟨cell_stays hHeld.1 b4, cell_stays hHeld.2.1 b4, cell_stays hHeld.2.2.1 b4, cell_stays hHeld.2.2.2.1 b4, cell_stays hHeld.2.2.2.2.1 b4, cell_stays hHeld.2.2.2.2.2 b4⟩
    have lc4 := cell_stays lc b4
    have bb4 := b0.trans (b4.mono b0.size)
    refine ⟨_, rfl, h4, ?_⟩
    try simp only [Act.put, sI, sZ, sS]
    obtain ⟨z5, hz5⟩ : ∃ q, q = z4.alloc (.cells (encE ((sg, sr, sl, sn, si), x)).toArray 53) := ⟨_, rfl⟩
    have r5 := heap_alloc_new z4 (.cells (encE ((sg, sr, sl, sn, si), x)).toArray 53)
    rw [← hz5] at r5
    have b5 : Below z4.heap.size z4 z5 := by rw [hz5]; exact (Below.refl _ z4).alloc (Nat.le_refl _) _
    have h5 : z5.cell? ⟨Tb, 0, none⟩ = some (.func (.func 158) #[] #[]) ∧ z5.cell? ⟨Sb, 0, none⟩ = some (.int .i64 sg) ∧ z5.cell? ⟨Sb, 1, none⟩ = some (.int .i64 sr) ∧ z5.cell? ⟨Sb, 2, none⟩ = some (.string sl) ∧ z5.cell? ⟨Sb, 3, none⟩ = some (.int .i64 sn) ∧ z5.cell? ⟨Sb, 4, none⟩ = some (.int .i64 si) := ⟨cell_stays h4.1 b5, cell_stays h4.2.1 b5, cell_stays h4.2.2.1 b5, cell_stays h4.2.2.2.1 b5, cell_stays h4.2.2.2.2.1 b5, cell_stays h4.2.2.2.2.2 b5⟩
    have bz5 := bb4.trans (b5.mono bb4.size)
    have lc5 := cell_stays lc4 b5
    refine two_op (i := 0) (di := 7) (OPi := Op.load 22 (Operand.tmp 2)) (Ti := 22) (j := 5) (dj := 12) (OPj := Op.buildSlice 22 1 #[(0, Operand.tmp 11)]) (Tj := 22) (v := .slice ao N cp) (u := .slice (some ⟨z4.heap.size, 0, none⟩) 1 1) (w' := z5) rfl rfl rfl rfl rfl rfl rfl rfl (by kernel_rfl) (by rfl) (by rfl) (by go_simp) (by rw [hz5]; exact exec_bs53 rfl) h4 h5 ?_ ?_
    · try simp only [Act.put, sI, sZ, sS]
      refine turn_op (i := 5) (d := 12) (OP := Op.buildSlice 22 1 #[(0, Operand.tmp 11)]) (T := 22) (v := .slice (some ⟨z4.heap.size, 0, none⟩) 1 1) (w' := z5) rfl rfl rfl rfl (by kernel_rfl) (by rfl) (by rw [hz5]; exact exec_bs53 rfl) h5 ?_
      try simp only [Act.put, sI, sZ, sS]
      obtain ⟨a', c', w7, hrun, hO7, ho7⟩ := push_Oe (y := ((sg, sr, sl, sn, si), x)) (HO.out z5 bz5) r5 (by rw [← HN.out]; have := HNB.out; omega) (by have := bz5.size; have := HS.out; omega)
      rw [← HN.out] at hrun hO7 ho7
      obtain ⟨e1, e2, e3, e4, e5, e6, e7⟩ := HE.out z5 a' c' w7 bz5 hO7 ho7
      refine turn_op (i := 6) (d := 13) (OP := Op.call { callee := Callee.builtin Builtin.append, args := #[Operand.tmp 7, Operand.tmp 12], argTypes := #[22, 22] }) (T := 22) (v := .slice a' (N + 1) c') (w' := w7) rfl rfl rfl rfl (by kernel_rfl) (by rfl) (exec_append rfl rfl hrun) ⟨e2.trans h5.1, (e3 0).trans h5.2.1, (e3 1).trans h5.2.2.1, (e3 2).trans h5.2.2.2.1, (e3 3).trans h5.2.2.2.2.1, (e3 4).trans h5.2.2.2.2.2⟩ ?_
      try simp only [Act.put, sI, sZ, sS]
      refine skip_op (i := 7) (OP := Op.store 22 (Operand.tmp 2) (Operand.tmp 13)) (T := 0) (w' := w7.setCell ⟨Lb, 0, none⟩ (.slice a' (N + 1) c')) rfl rfl rfl rfl (by kernel_rfl) (by rfl) (exec_st22 rfl rfl e4 e5) ⟨⟨((e1 _).1).trans h5.1, ((e1 _).2 0).trans h5.2.1, ((e1 _).2 1).trans h5.2.2.1, ((e1 _).2 2).trans h5.2.2.2.1, ((e1 _).2 3).trans h5.2.2.2.2.1, ((e1 _).2 4).trans h5.2.2.2.2.2⟩, ?_⟩
      try simp only [Act.put, sI, sZ, sS]
      refine wpAnyH_done (by kernel_rfl) ?_ _
      have HF := hide (And.intro e6 e7)
      clear e1 e2 e3 e4 e5 e6 e7 hrun hO7 ho7 h5 r5 bz5 HE HO hT lc
      go_wp2
      go_ret
      exact ⟨rfl, HF.out.1, _, _, HF.out.2⟩
    · try simp only [Act.put, sI, sZ, sS]
      clear hz5
      refine turn_op (i := 0) (d := 7) (OP := Op.load 22 (Operand.tmp 2)) (T := 22) (v := .slice ao N cp) (w' := z5) rfl rfl rfl rfl (by kernel_rfl) (by rfl) (by go_simp) h5 ?_
      try simp only [Act.put, sI, sZ, sS]
      obtain ⟨a', c', w7, hrun, hO7, ho7⟩ := push_Oe (y := ((sg, sr, sl, sn, si), x)) (HO.out z5 bz5) r5 (by rw [← HN.out]; have := HNB.out; omega) (by have := bz5.size; have := HS.out; omega)
      rw [← HN.out] at hrun hO7 ho7
      obtain ⟨e1, e2, e3, e4, e5, e6, e7⟩ := HE.out z5 a' c' w7 bz5 hO7 ho7
      refine turn_op (i := 6) (d := 13) (OP := Op.call { callee := Callee.builtin Builtin.append, args := #[Operand.tmp 7, Operand.tmp 12], argTypes := #[22, 22] }) (T := 22) (v := .slice a' (N + 1) c') (w' := w7) rfl rfl rfl rfl (by kernel_rfl) (by rfl) (exec_append rfl rfl hrun) ⟨e2.trans h5.1, (e3 0).trans h5.2.1, (e3 1).trans h5.2.2.1, (e3 2).trans h5.2.2.2.1, (e3 3).trans h5.2.2.2.2.1, (e3 4).trans h5.2.2.2.2.2⟩ ?_
      try simp only [Act.put, sI, sZ, sS]
      refine skip_op (i := 7) (OP := Op.store 22 (Operand.tmp 2) (Operand.tmp 13)) (T := 0) (w' := w7.setCell ⟨Lb, 0, none⟩ (.slice a' (N + 1) c')) rfl rfl rfl rfl (by kernel_rfl) (by rfl) (exec_st22 rfl rfl e4 e5) ⟨⟨((e1 _).1).trans h5.1, ((e1 _).2 0).trans h5.2.1, ((e1 _).2 1).trans h5.2.2.1, ((e1 _).2 2).trans h5.2.2.2.1, ((e1 _).2 3).trans h5.2.2.2.2.1, ((e1 _).2 4).trans h5.2.2.2.2.2⟩, ?_⟩
      try simp only [Act.put, sI, sZ, sS]
      refine wpAnyH_done (by kernel_rfl) ?_ _
      have HF := hide (And.intro e6 e7)
      clear e1 e2 e3 e4 e5 e6 e7 hrun hO7 ho7 h5 r5 bz5 HE HO hT lc
      go_wp2
      go_ret
      exact ⟨rfl, HF.out.1, _, _, HF.out.2⟩
set_option maxHeartbeats 8000000 in
set_option maxRecDepth 100000 in
theorem gath160 {W2 : World} {Lb Tb B : Nat} {ao : Option Addr} {cp : Nat} (s : St) (x : ByteArray) (p : List ByteArray) (hbox : W2.heap[Lb]? = some (.cells #[.slice ao p.length cp] 63 (0, 0))) (htell : W2.heap[Tb]? = some (.cells #[.func (.func 160) #[] #[]] 151 (0, 0))) (hO : Ot W2 B (.slice ao p.length cp) p) (hLb : Lb < B) (hTb : Tb < B) (hne : Tb ≠ Lb) (hB : B ≤ W2.heap.size) (hp : p.length ≤ 100000) :
    Calls Tryz.prog 199 #[svT s, .string x, .pointer (some ⟨Lb, 0, none⟩), .pointer (some ⟨Tb, 0, none⟩)] W2 fun e W5 => e = .returned (.bool true) ∧ Only (fun j => j = Lb ∨ B ≤ j) W2 W5 ∧ ∃ a' c', W5.heap[Lb]? = some (.cells #[.slice a' (p.length + 1) c'] 63 (0, 0)) ∧ Ot W5 B (.slice a' (p.length + 1) c') (p ++ [x]) := by
  obtain ⟨sg, sr, sl, sn, si⟩ := s
  obtain ⟨N, hN⟩ : ∃ N, N = p.length := ⟨_, rfl⟩
  obtain ⟨W3, hW3⟩ : ∃ q, q = W2.alloc (.cells #[.int .i64 sg, .int .i64 sr, .string sl, .int .i64 sn, .int .i64 si] 43) := ⟨_, rfl⟩
  have r1 := heap_alloc_new W2 (.cells #[.int .i64 sg, .int .i64 sr, .string sl, .int .i64 sn, .int .i64 si] 43)
  have b1 : Below W2.heap.size W2 W3 := by rw [hW3]; exact (Below.refl _ W2).alloc (Nat.le_refl _) _
  rw [← hW3] at r1
  obtain ⟨Sb, hSb⟩ : ∃ q, q = W2.heap.size := ⟨_, rfl⟩
  rw [← hSb] at r1
  rw [← hN] at hp hbox ⊢
  have bx3 := (b1.block _ (gI hbox).1).trans hbox
  have tb3 := (b1.block _ (gI htell).1).trans htell
  have hS3 : Sb < W3.heap.size := (gI r1).1
  have hO3 := hO.below b1
  have HS : Hid (B ≤ Sb ∧ Sb < W3.heap.size ∧ Lb < B ∧ Tb < B ∧ Tb ≠ Lb ∧ B ≤ W3.heap.size) := hide ⟨by omega, hS3, hLb, hTb, hne, by have := b1.size; omega⟩
  have hown : ∀ k, (Value.slice ao N cp).ownBlock = some k → B ≤ k ∧ k < W2.heap.size := fun k hk => by rw [hN] at hk; exact World.ownsRow.lt hO k hk
  have qd : W3.drew.cell? ⟨Tb, 0, none⟩ = some (.func (.func 160) #[] #[]) ∧ W3.drew.cell? ⟨Sb, 0, none⟩ = some (.int .i64 sg) ∧ W3.drew.cell? ⟨Sb, 1, none⟩ = some (.int .i64 sr) ∧ W3.drew.cell? ⟨Sb, 2, none⟩ = some (.string sl) ∧ W3.drew.cell? ⟨Sb, 3, none⟩ = some (.int .i64 sn) ∧ W3.drew.cell? ⟨Sb, 4, none⟩ = some (.int .i64 si) := ⟨(cell_of_row W3.drew _ 0 _ 151 (0, 0) tb3).trans rfl, (cell_of_row W3.drew _ 0 _ 43 (0, 0) r1).trans rfl, (cell_of_row W3.drew _ 1 _ 43 (0, 0) r1).trans rfl, (cell_of_row W3.drew _ 2 _ 43 (0, 0) r1).trans rfl, (cell_of_row W3.drew _ 3 _ 43 (0, 0) r1).trans rfl, (cell_of_row W3.drew _ 4 _ 43 (0, 0) r1).trans rfl⟩
  have lc : W3.drew.cell? ⟨Lb, 0, none⟩ = some (.slice ao N cp) := (cell_of_row W3.drew _ 0 _ 63 (0, 0) bx3).trans rfl
  have hT := fun W' => tell125 (sg, sr, sl, sn, si) x W'
  dsimp only [svT] at hT
  have ends : ∀ w5 a' c' w7, Below W3.heap.size W3 w5 → Ot w7 B (.slice a' (N + 1) c') (p ++ [x]) → Only (fun k => (Value.slice ao N cp).ownBlock = some k) w5 w7 →
      (∀ y, (w7.setCell ⟨Lb, 0, none⟩ y).cell? ⟨Tb, 0, none⟩ = w5.cell? ⟨Tb, 0, none⟩ ∧ ∀ i, (w7.setCell ⟨Lb, 0, none⟩ y).cell? ⟨Sb, i, none⟩ = w5.cell? ⟨Sb, i, none⟩) ∧ w7.cell? ⟨Tb, 0, none⟩ = w5.cell? ⟨Tb, 0, none⟩ ∧ (∀ i, w7.cell? ⟨Sb, i, none⟩ = w5.cell? ⟨Sb, i, none⟩) ∧
      w7.cell? ⟨Lb, 0, none⟩ = some (.slice ao N cp) ∧ w7.frozen? ⟨Lb, 0, none⟩ = false ∧ Only (fun j => j = Lb ∨ B ≤ j) W2 (w7.setCell ⟨Lb, 0, none⟩ (.slice a' (N + 1) c')) ∧ (w7.setCell ⟨Lb, 0, none⟩ (.slice a' (N + 1) c')).heap[Lb]? = some (.cells #[.slice a' (N + 1) c'] 63 (0, 0)) ∧ Ot (w7.setCell ⟨Lb, 0, none⟩ (.slice a' (N + 1) c')) B (.slice a' (N + 1) c') (p ++ [x]) := fun w5 a' c' w7 b5 hO7 ho7 => by
    have hs := HS.out
    have hsz5 := b5.size
    have hsz7 := ho7.size
    have hlt3 := (gI bx3).1
    have hT7 : w7.cell? ⟨Tb, 0, none⟩ = w5.cell? ⟨Tb, 0, none⟩ := World.cell?_of_block (ho7.block Tb (by omega) (fun e => by have := hown Tb e; omega))
    have hS7 : ∀ i, w7.cell? ⟨Sb, i, none⟩ = w5.cell? ⟨Sb, i, none⟩ := fun i => World.cell?_of_block (ho7.block Sb (by omega) (fun e => by have := hown Sb e; omega))
    have bx5 := (b5.block _ hlt3).trans bx3
    have bx7 := (ho7.block Lb (by omega) (fun e => by have := hown Lb e; omega)).trans bx5
    obtain ⟨s9, o9⟩ := set_one (i := 0) (.slice a' (N + 1) c') bx7
    have o57 : Only (fun j => j = Lb ∨ B ≤ j) W2 w7 := (below_only (b1.trans (b5.mono b1.size))).next (ho7.mono (fun j _ e => .inr (hown j e).1))
    refine ⟨fun y => ?_, hT7, hS7, (cell_of_row _ _ 0 _ 63 (0, 0) bx7).trans rfl, frozen_of_row _ _ 0 _ 63 bx7, o57.next (o9.mono (fun j _ e => .inl e)), by simpa using s9, ?_⟩
    · obtain ⟨-, oy⟩ := set_one (i := 0) y bx7
      exact ⟨(World.cell?_of_block (oy.block Tb (by omega) (fun e => by have e' : Tb = Lb := e; omega))).trans hT7, fun i => (World.cell?_of_block (oy.block Sb (by omega) (fun e => by have e' : Sb = Lb := e; omega))).trans (hS7 i)⟩
    · exact hO7.only o9 (fun k hk e => by
        have := World.ownsRow.lt hO7 k hk
        have e' : k = Lb := e
        omega)
  have HE := hide ends
  have HO : Hid (∀ w5, Below W3.heap.size W3 w5 → Ot w5 B (.slice ao p.length cp) p) := hide (fun w5 b5 => hO3.below b5)
  have HN := hide hN
  have HNB := hide hp
  have HW3 := hide (And.intro hW3 hSb)
  have b0 : Below W3.heap.size W3 W3.drew := drew_below W3
  clear ends hO3 hO hbox htell hLb hTb hne hB hp hN hW3 r1 b1 hSb bx3 tb3 hS3 hown
  dsimp only [svT, sv]
  go_enter Tryz.func199, Tryz.ntmps199
  go_upto_region 1 with fail
  rw [← HW3.out.1, ← HW3.out.2]
  refine wp_region_held_drew (S := fun w' => w'.cell? ⟨Tb, 0, none⟩ = some (.func (.func 160) #[] #[]) ∧ w'.cell? ⟨Sb, 0, none⟩ = some (.int .i64 sg) ∧ w'.cell? ⟨Sb, 1, none⟩ = some (.int .i64 sr) ∧ w'.cell? ⟨Sb, 2, none⟩ = some (.string sl) ∧ w'.cell? ⟨Sb, 3, none⟩ = some (.int .i64 sn) ∧ w'.cell? ⟨Sb, 4, none⟩ = some (.int .i64 si)) (by kernel_rfl) qd (fun hHeld => ?_)
  clear qd
  try dsimp only at hHeld
  generalize W3.drew = Wd at hHeld lc b0 ⊢
  refine take_op (i := 1) (d := 8) (OP := Op.load 151 (Operand.tmp 3)) (T := 151) (v := ?vzg4) rfl rfl rfl rfl (by kernel_rfl) (by kernel_rfl) (by kernel_rfl) (fun _ _ _ h => h) (by rfl) ?hzg4 hHeld ?rzg4
  case hzg4 => (intro w' hSw; (try dsimp only at hSw); go_simp <;> with_reducible rfl)
  try simp only [Act.put, sI, sZ, sS]
  refine take_op (i := 2) (d := 9) (OP := Op.load 43 (Operand.tmp 4)) (T := 43) (v := ?vzg5) rfl rfl rfl rfl (by kernel_rfl) (by kernel_rfl) (by kernel_rfl) (fun _ _ _ h => h) (by rfl) ?hzg5 hHeld ?rzg5
  case hzg5 => (intro w' hSw; (try dsimp only at hSw); go_simp <;> with_reducible rfl)
  try simp only [Act.put, sI, sZ, sS]
  refine take_op (i := 3) (d := 10) (OP := Op.move (Operand.tmp 1)) (T := 9) (v := ?vzg6) rfl rfl rfl rfl (by kernel_rfl) (by kernel_rfl) (by kernel_rfl) (fun _ _ _ h => h) (by rfl) ?hzg6 hHeld ?rzg6
  case hzg6 => (intro w' hSw; (try dsimp only at hSw); go_simp <;> with_reducible rfl)
  try simp only [Act.put, sI, sZ, sS]
  refine load_call_op (i := 0) (di := 7) (OPi := Op.load 63 (Operand.tmp 2)) (Ti := 63) (j := 4) (dj := 11) (OPj := Op.call { callee := Callee.value (Operand.tmp 8), args := #[Operand.tmp 9, Operand.tmp 10], argTypes := #[43, 9] }) (Tj := 9) (f := 160) (args := #[.agg #[.int .i64 sg, .int .i64 sr, .string sl, .int .i64 sn, .int .i64 si], .string x]) (u := .slice ao N cp) rfl rfl rfl rfl rfl rfl rfl rfl (by kernel_rfl) (by rfl) (by rfl) (by go_simp) (by go_simp) hHeld ?_ ?_
  · try simp only [Act.put, sI, sZ, sS]
    refine call_op (i := 4) (d := 11) (OP := Op.call { callee := Callee.value (Operand.tmp 8), args := #[Operand.tmp 9, Operand.tmp 10], argTypes := #[43, 9] }) (T := 9) (f := 160) (args := #[.agg #[.int .i64 sg, .int .i64 sr, .string sl, .int .i64 sn, .int .i64 si], .string x]) rfl rfl rfl rfl (by kernel_rfl) (by rfl) (by go_simp) ?_
    refine (hT _).mono ?_
    rintro e z4 ⟨rfl, b4⟩
    have h4 : z4.cell? ⟨Tb, 0, none⟩ = some (.func (.func 160) #[] #[]) ∧ z4.cell? ⟨Sb, 0, none⟩ = some (.int .i64 sg) ∧ z4.cell? ⟨Sb, 1, none⟩ = some (.int .i64 sr) ∧ z4.cell? ⟨Sb, 2, none⟩ = some (.string sl) ∧ z4.cell? ⟨Sb, 3, none⟩ = some (.int .i64 sn) ∧ z4.cell? ⟨Sb, 4, none⟩ = some (.int .i64 si) := ⟨cell_stays hHeld.1 b4, cell_stays hHeld.2.1 b4, cell_stays hHeld.2.2.1 b4, cell_stays hHeld.2.2.2.1 b4, cell_stays hHeld.2.2.2.2.1 b4, cell_stays hHeld.2.2.2.2.2 b4⟩
    have lc4 := cell_stays lc b4
    have bb4 := b0.trans (b4.mono b0.size)
    refine ⟨_, rfl, h4, ?_⟩
    try simp only [Act.put, sI, sZ, sS]
    obtain ⟨z5, hz5⟩ : ∃ q, q = z4.alloc (.cells #[.string x] 9) := ⟨_, rfl⟩
    have r5 := heap_alloc_new z4 (.cells #[.string x] 9)
    rw [← hz5] at r5
    have b5 : Below z4.heap.size z4 z5 := by rw [hz5]; exact (Below.refl _ z4).alloc (Nat.le_refl _) _
    have h5 : z5.cell? ⟨Tb, 0, none⟩ = some (.func (.func 160) #[] #[]) ∧ z5.cell? ⟨Sb, 0, none⟩ = some (.int .i64 sg) ∧ z5.cell? ⟨Sb, 1, none⟩ = some (.int .i64 sr) ∧ z5.cell? ⟨Sb, 2, none⟩ = some (.string sl) ∧ z5.cell? ⟨Sb, 3, none⟩ = some (.int .i64 sn) ∧ z5.cell? ⟨Sb, 4, none⟩ = some (.int .i64 si) := ⟨cell_stays h4.1 b5, cell_stays h4.2.1 b5, cell_stays h4.2.2.1 b5, cell_stays h4.2.2.2.1 b5, cell_stays h4.2.2.2.2.1 b5, cell_stays h4.2.2.2.2.2 b5⟩
    have bz5 := bb4.trans (b5.mono bb4.size)
    have lc5 := cell_stays lc4 b5
    refine turn_op (i := 5) (d := 12) (OP := Op.buildSlice 63 1 #[(0, Operand.tmp 11)]) (T := 63) (v := .slice (some ⟨z4.heap.size, 0, none⟩) 1 1) (w' := z5) rfl rfl rfl rfl (by kernel_rfl) (by rfl) (by rw [hz5]; exact exec_bs9 rfl) h5 ?_
    try simp only [Act.put, sI, sZ, sS]
    obtain ⟨a', c', w7, hrun, hO7, ho7⟩ := push_Ot (y := x) (HO.out z5 bz5) r5 (by rw [← HN.out]; have := HNB.out; omega) (by have := bz5.size; have := HS.out; omega)
    rw [← HN.out] at hrun hO7 ho7
    obtain ⟨e1, e2, e3, e4, e5, e6, e7⟩ := HE.out z5 a' c' w7 bz5 hO7 ho7
    refine turn_op (i := 6) (d := 13) (OP := Op.call { callee := Callee.builtin Builtin.append, args := #[Operand.tmp 7, Operand.tmp 12], argTypes := #[63, 63] }) (T := 63) (v := .slice a' (N + 1) c') (w' := w7) rfl rfl rfl rfl (by kernel_rfl) (by rfl) (exec_append rfl rfl hrun) ⟨e2.trans h5.1, (e3 0).trans h5.2.1, (e3 1).trans h5.2.2.1, (e3 2).trans h5.2.2.2.1, (e3 3).trans h5.2.2.2.2.1, (e3 4).trans h5.2.2.2.2.2⟩ ?_
    try simp only [Act.put, sI, sZ, sS]
    refine skip_op (i := 7) (OP := Op.store 63 (Operand.tmp 2) (Operand.tmp 13)) (T := 0) (w' := w7.setCell ⟨Lb, 0, none⟩ (.slice a' (N + 1) c')) rfl rfl rfl rfl (by kernel_rfl) (by rfl) (exec_st63 rfl rfl e4 e5) ⟨⟨((e1 _).1).trans h5.1, ((e1 _).2 0).trans h5.2.1, ((e1 _).2 1).trans h5.2.2.1, ((e1 _).2 2).trans h5.2.2.2.1, ((e1 _).2 3).trans h5.2.2.2.2.1, ((e1 _).2 4).trans h5.2.2.2.2.2⟩, ?_⟩
    try simp only [Act.put, sI, sZ, sS]
    refine wpAnyH_done (by kernel_rfl) ?_ _
    have HF := hide (And.intro e6 e7)
    clear e1 e2 e3 e4 e5 e6 e7 hrun hO7 ho7 h5 r5 bz5 HE HO hT lc
    go_wp2
    go_ret
    exact ⟨rfl, HF.out.1, _, _, HF.out.2⟩
  · skip
    refine (hT _).mono ?_
    rintro e z4 ⟨rfl, b4⟩
    have h4 : z4.cell? ⟨Tb, 0, none⟩ = some (.func (.func 160) #[] #[]) ∧ z4.cell? ⟨Sb, 0, none⟩ = some (.int .i64 sg) ∧ z4.cell? ⟨Sb, 1, none⟩ = some (.int .i64 sr) ∧ z4.cell? ⟨Sb, 2, none⟩ = some (.string sl) ∧ z4.cell? ⟨Sb, 3, none⟩ = some (.int .i64 sn) ∧ z4.cell? ⟨Sb, 4, none⟩ = some (.int .i64 si) := ⟨cell_stays hHeld.1 b4, cell_stays hHeld.2.1 b4, cell_stays hHeld.2.2.1 b4, cell_stays hHeld.2.2.2.1 b4, cell_stays hHeld.2.2.2.2.1 b4, cell_stays hHeld.2.2.2.2.2 b4⟩
    have lc4 := cell_stays lc b4
    have bb4 := b0.trans (b4.mono b0.size)
    refine ⟨_, rfl, h4, ?_⟩
    try simp only [Act.put, sI, sZ, sS]
    obtain ⟨z5, hz5⟩ : ∃ q, q = z4.alloc (.cells #[.string x] 9) := ⟨_, rfl⟩
    have r5 := heap_alloc_new z4 (.cells #[.string x] 9)
    rw [← hz5] at r5
    have b5 : Below z4.heap.size z4 z5 := by rw [hz5]; exact (Below.refl _ z4).alloc (Nat.le_refl _) _
    have h5 : z5.cell? ⟨Tb, 0, none⟩ = some (.func (.func 160) #[] #[]) ∧ z5.cell? ⟨Sb, 0, none⟩ = some (.int .i64 sg) ∧ z5.cell? ⟨Sb, 1, none⟩ = some (.int .i64 sr) ∧ z5.cell? ⟨Sb, 2, none⟩ = some (.string sl) ∧ z5.cell? ⟨Sb, 3, none⟩ = some (.int .i64 sn) ∧ z5.cell? ⟨Sb, 4, none⟩ = some (.int .i64 si) := ⟨cell_stays h4.1 b5, cell_stays h4.2.1 b5, cell_stays h4.2.2.1 b5, cell_stays h4.2.2.2.1 b5, cell_stays h4.2.2.2.2.1 b5, cell_stays h4.2.2.2.2.2 b5⟩
    have bz5 := bb4.trans (b5.mono bb4.size)
    have lc5 := cell_stays lc4 b5
    refine two_op (i := 0) (di := 7) (OPi := Op.load 63 (Operand.tmp 2)) (Ti := 63) (j := 5) (dj := 12) (OPj := Op.buildSlice 63 1 #[(0, Operand.tmp 11)]) (Tj := 63) (v := .slice ao N cp) (u := .slice (some ⟨z4.heap.size, 0, none⟩) 1 1) (w' := z5) rfl rfl rfl rfl rfl rfl rfl rfl (by kernel_rfl) (by rfl) (by rfl) (by go_simp) (by rw [hz5]; exact exec_bs9 rfl) h4 h5 ?_ ?_
    · try simp only [Act.put, sI, sZ, sS]
      refine turn_op (i := 5) (d := 12) (OP := Op.buildSlice 63 1 #[(0, Operand.tmp 11)]) (T := 63) (v := .slice (some ⟨z4.heap.size, 0, none⟩) 1 1) (w' := z5) rfl rfl rfl rfl (by kernel_rfl) (by rfl) (by rw [hz5]; exact exec_bs9 rfl) h5 ?_
      try simp only [Act.put, sI, sZ, sS]
      obtain ⟨a', c', w7, hrun, hO7, ho7⟩ := push_Ot (y := x) (HO.out z5 bz5) r5 (by rw [← HN.out]; have := HNB.out; omega) (by have := bz5.size; have := HS.out; omega)
      rw [← HN.out] at hrun hO7 ho7
      obtain ⟨e1, e2, e3, e4, e5, e6, e7⟩ := HE.out z5 a' c' w7 bz5 hO7 ho7
      refine turn_op (i := 6) (d := 13) (OP := Op.call { callee := Callee.builtin Builtin.append, args := #[Operand.tmp 7, Operand.tmp 12], argTypes := #[63, 63] }) (T := 63) (v := .slice a' (N + 1) c') (w' := w7) rfl rfl rfl rfl (by kernel_rfl) (by rfl) (exec_append rfl rfl hrun) ⟨e2.trans h5.1, (e3 0).trans h5.2.1, (e3 1).trans h5.2.2.1, (e3 2).trans h5.2.2.2.1, (e3 3).trans h5.2.2.2.2.1, (e3 4).trans h5.2.2.2.2.2⟩ ?_
      try simp only [Act.put, sI, sZ, sS]
      refine skip_op (i := 7) (OP := Op.store 63 (Operand.tmp 2) (Operand.tmp 13)) (T := 0) (w' := w7.setCell ⟨Lb, 0, none⟩ (.slice a' (N + 1) c')) rfl rfl rfl rfl (by kernel_rfl) (by rfl) (exec_st63 rfl rfl e4 e5) ⟨⟨((e1 _).1).trans h5.1, ((e1 _).2 0).trans h5.2.1, ((e1 _).2 1).trans h5.2.2.1, ((e1 _).2 2).trans h5.2.2.2.1, ((e1 _).2 3).trans h5.2.2.2.2.1, ((e1 _).2 4).trans h5.2.2.2.2.2⟩, ?_⟩
      try simp only [Act.put, sI, sZ, sS]
      refine wpAnyH_done (by kernel_rfl) ?_ _
      have HF := hide (And.intro e6 e7)
      clear e1 e2 e3 e4 e5 e6 e7 hrun hO7 ho7 h5 r5 bz5 HE HO hT lc
      go_wp2
      go_ret
      exact ⟨rfl, HF.out.1, _, _, HF.out.2⟩
    · try simp only [Act.put, sI, sZ, sS]
      clear hz5
      refine turn_op (i := 0) (d := 7) (OP := Op.load 63 (Operand.tmp 2)) (T := 63) (v := .slice ao N cp) (w' := z5) rfl rfl rfl rfl (by kernel_rfl) (by rfl) (by go_simp) h5 ?_
      try simp only [Act.put, sI, sZ, sS]
      obtain ⟨a', c', w7, hrun, hO7, ho7⟩ := push_Ot (y := x) (HO.out z5 bz5) r5 (by rw [← HN.out]; have := HNB.out; omega) (by have := bz5.size; have := HS.out; omega)
      rw [← HN.out] at hrun hO7 ho7
      obtain ⟨e1, e2, e3, e4, e5, e6, e7⟩ := HE.out z5 a' c' w7 bz5 hO7 ho7
      refine turn_op (i := 6) (d := 13) (OP := Op.call { callee := Callee.builtin Builtin.append, args := #[Operand.tmp 7, Operand.tmp 12], argTypes := #[63, 63] }) (T := 63) (v := .slice a' (N + 1) c') (w' := w7) rfl rfl rfl rfl (by kernel_rfl) (by rfl) (exec_append rfl rfl hrun) ⟨e2.trans h5.1, (e3 0).trans h5.2.1, (e3 1).trans h5.2.2.1, (e3 2).trans h5.2.2.2.1, (e3 3).trans h5.2.2.2.2.1, (e3 4).trans h5.2.2.2.2.2⟩ ?_
      try simp only [Act.put, sI, sZ, sS]
      refine skip_op (i := 7) (OP := Op.store 63 (Operand.tmp 2) (Operand.tmp 13)) (T := 0) (w' := w7.setCell ⟨Lb, 0, none⟩ (.slice a' (N + 1) c')) rfl rfl rfl rfl (by kernel_rfl) (by rfl) (exec_st63 rfl rfl e4 e5) ⟨⟨((e1 _).1).trans h5.1, ((e1 _).2 0).trans h5.2.1, ((e1 _).2 1).trans h5.2.2.1, ((e1 _).2 2).trans h5.2.2.2.1, ((e1 _).2 3).trans h5.2.2.2.2.1, ((e1 _).2 4).trans h5.2.2.2.2.2⟩, ?_⟩
      try simp only [Act.put, sI, sZ, sS]
      refine wpAnyH_done (by kernel_rfl) ?_ _
      have HF := hide (And.intro e6 e7)
      clear e1 e2 e3 e4 e5 e6 e7 hrun hO7 ho7 h5 r5 bz5 HE HO hT lc
      go_wp2
      go_ret
      exact ⟨rfl, HF.out.1, _, _, HF.out.2⟩
end Go.Proofs.YtkkpdgfllnbigaaGreat.Jo
namespace Go.Proofs.YtkkpdgfllnbigaaGreat.Rise
/-- An order told by -1, 0, 1. -/
structure OrdS {σ : Type} (f : σ → σ → Int) : Prop where
  range : ∀ a b, f a b = -1 ∨ f a b = 0 ∨ f a b = 1
  anti : ∀ a b, f a b = - f b a
  eq : ∀ a b, f a b = 0 → a = b
  trans : ∀ a b c, f a b = -1 → f b c = -1 → f a c = -1
theorem OrdS.refl {σ : Type} {f : σ → σ → Int} (h : OrdS f) (a : σ) : f a a = 0 := by have := h.anti a a; omega
theorem OrdS.ne {σ : Type} {f : σ → σ → Int} (h : OrdS f) {a b : σ} (hl : f a b = -1) : a ≠ b := fun e => by rw [e, h.refl] at hl; omega
variable {α σ : Type} {f : σ → σ → Int} {st : α → σ}
/-- Each one's stamp is ahead of the next ones'. -/
def Up (f : σ → σ → Int) (st : α → σ) (l : List α) : Prop := l.Pairwise (fun x y => f (st x) (st y) = -1)
/-- Two rising lists with the same members are one. -/
theorem Up.same (o : OrdS f) : ∀ {l m : List α}, Up f st l → Up f st m → (∀ x, x ∈ l ↔ x ∈ m) → l = m
  | [], [], _, _, _ => rfl
  | [], y :: m, _, _, h => absurd ((h y).2 (List.mem_cons_self ..)) (by simp)
  | x :: l, [], _, _, h => absurd ((h x).1 (List.mem_cons_self ..)) (by simp)
  | x :: l, y :: m, hl, hm, h => by
    have hl' := List.pairwise_cons.1 hl
    have hm' := List.pairwise_cons.1 hm
    have hxy : x = y := by
      rcases List.mem_cons.1 ((h x).1 (List.mem_cons_self ..)) with e | e
      · exact e
      · rcases List.mem_cons.1 ((h y).2 (List.mem_cons_self ..)) with e' | e'
        · exact e'.symm
        · have h1 := hl'.1 y e'
          have h2 := hm'.1 x e
          have := o.anti (st x) (st y)
          omega
    subst hxy
    congr 1
    refine Up.same o hl'.2 hm'.2 (fun z => ⟨fun hz => ?_, fun hz => ?_⟩)
    · rcases List.mem_cons.1 ((h z).1 (List.mem_cons_of_mem _ hz)) with e | e
      · subst e; exact absurd rfl (o.ne (hl'.1 z hz))
      · exact e
    · rcases List.mem_cons.1 ((h z).2 (List.mem_cons_of_mem _ hz)) with e | e
      · subst e; exact absurd rfl (o.ne (hm'.1 z hz))
      · exact e
/-- The document's way: both lists are gone through side by side. -/
def run (f : σ → σ → Int) (st : α → σ) (inB inO : σ → Bool) : List α → List α → List α
  | [], [] => []
  | [], y :: b => (if inO (st y) then [] else [y]) ++ run f st inB inO [] b
  | x :: a, [] => (if inB (st x) || !inO (st x) then [x] else []) ++ run f st inB inO a []
  | x :: a, y :: b =>
    if f (st x) (st y) ≤ 0 then (if inB (st x) || !inO (st x) then [x] else []) ++ (if inB (st x) then run f st inB inO a b else run f st inB inO a (y :: b))
    else (if inO (st y) then [] else [y]) ++ run f st inB inO (x :: a) b
termination_by a b => a.length + b.length
end Go.Proofs.YtkkpdgfllnbigaaGreat.Rise
namespace Go.Proofs.YtkkpdgfllnbigaaGreat
open Go.RowKit Go.Shelf
theorem ordS_T : Rise.OrdS cmpT := ⟨ord_T.range, ord_T.anti, ord_T.eq, ord_T.trans⟩
/-- Rising by stamps. -/
abbrev UpE (l : List El) : Prop := UpS l
theorem UpS.rise {l : List El} (h : UpS l) : ∀ (i j : Nat) (x y : El), i < j → l[i]? = some x → l[j]? = some y → cmpT x.1 y.1 = -1 := fun i j x y hij hx hy => by
  obtain ⟨hi, e1⟩ := List.getElem?_eq_some_iff.1 hx
  obtain ⟨hj, e2⟩ := List.getElem?_eq_some_iff.1 hy
  rw [← e1, ← e2]
  exact List.pairwise_iff_getElem.1 h i j hi hj hij
/-- Does a stamp stand in a list? -/
def standsB (s : St) (l : List El) : Bool := l.any fun y => decide (y.1 = s)
theorem standsB_iff (s : St) (l : List El) : standsB s l = true ↔ ∃ y ∈ l, y.1 = s := by
  unfold standsB; rw [List.any_eq_true]; simp
theorem drop_at {l : List El} {i : Nat} {x : El} (h : l[i]? = some x) : l.drop i = x :: l.drop (i + 1) := by
  obtain ⟨hi, e⟩ := List.getElem?_eq_some_iff.1 h
  rw [List.drop_eq_getElem_cons hi, e]
/-- All that was passed of b is ahead of what is left of a. -/
def Past (a b : List El) (i k : Nat) : Prop := ∀ j y, j < k → b[j]? = some y → ∀ x ∈ a.drop i, cmpT y.1 x.1 = -1
theorem Past.left {a b : List El} {i k : Nat} (h : Past a b i k) : Past a b (i + 1) k := fun j y hj hy x hx => h j y hj hy x (by
  rw [← List.drop_drop] at hx
  exact List.mem_of_mem_drop hx)
theorem up_next {a : List El} (u : UpE a) {i : Nat} {x z : El} (h : a[i]? = some x) (hz : z ∈ a.drop (i + 1)) : cmpT x.1 z.1 = -1 := by
  obtain ⟨j, hj, e⟩ := List.getElem_of_mem hz
  rw [List.getElem_drop] at e
  have hl : i + 1 + j < a.length := by rw [List.length_drop] at hj; omega
  exact u.rise i (i + 1 + j) x z (by omega) h (by rw [List.getElem?_eq_getElem hl, e])
theorem Past.right {a b : List El} {i k : Nat} (h : Past a b i k) (ua : UpE a) {x y : El} (hx : a[i]? = some x) (hy : b[k]? = some y) (hg : ¬ cmpT x.1 y.1 ≤ 0) : Past a b i (k + 1) := fun j z hj hz u hu => by
  by_cases hjk : j = k
  · subst hjk
    rw [hy] at hz
    cases hz
    have hyx : cmpT y.1 x.1 = -1 := by
      have h1 := ordS_T.anti y.1 x.1
      have h2 := ordS_T.range y.1 x.1
      omega
    rw [drop_at hx] at hu
    rcases List.mem_cons.1 hu with rfl | hu
    · exact hyx
    · exact ordS_T.trans _ _ _ hyx (up_next ua hx hu)
  · exact h j z (by omega) hz u hu
theorem Past.end {a b : List El} {k : Nat} : Past a b a.length k := fun j y _ _ x hx => by
  rw [List.drop_length] at hx; cases hx
theorem Past.gone {a b : List El} {i k : Nat} (h : Past a b i k) {x : El} (hx : a[i]? = some x) {j : Nat} {y : El} (hj : j < k) (hy : b[j]? = some y) : y.1 ≠ x.1 := fun e => by
  have := h j y hj hy x (by rw [drop_at hx]; exact List.mem_cons_self)
  rw [e, ordS_T.refl] at this
  omega
theorem Past.none {a b : List El} {i : Nat} (h : Past a b i b.length) {x : El} (hx : a[i]? = some x) : standsB x.1 b = false := by
  rw [Bool.eq_false_iff, Ne, standsB_iff]
  rintro ⟨y, hy, e⟩
  obtain ⟨j, hj, e2⟩ := List.getElem_of_mem hy
  exact h.gone hx hj (by rw [List.getElem?_eq_getElem hj, e2]) e
theorem Past.same {a b : List El} {i k : Nat} (h : Past a b i k) (ub : UpE b) {x y : El} (hx : a[i]? = some x) (hy : b[k]? = some y) (hl : cmpT x.1 y.1 ≤ 0) (hs : standsB x.1 b = true) : y.1 = x.1 := by
  obtain ⟨z, hz, e⟩ := (standsB_iff _ _).1 hs
  obtain ⟨j, hj, e2⟩ := List.getElem_of_mem hz
  have hzj : b[j]? = some z := by rw [List.getElem?_eq_getElem hj, e2]
  by_cases hjk : j < k
  · exact absurd e (h.gone hx hjk hzj)
  by_cases hkj : j = k
  · subst hkj
    rw [hy] at hzj
    cases hzj
    exact e
  have := ub.rise k j y z (by omega) hy hzj
  rw [e] at this
  have h1 := ordS_T.anti y.1 x.1
  omega
theorem Past.both {a b : List El} {i k : Nat} (h : Past a b i k) (ua : UpE a) {x y : El} (hx : a[i]? = some x) (hy : b[k]? = some y) (e : y.1 = x.1) : Past a b (i + 1) (k + 1) := fun j z hj hz u hu => by
  by_cases hjk : j = k
  · subst hjk
    rw [hy] at hz
    cases hz
    rw [e]
    exact up_next ua hx hu
  · exact h.left j z (by omega) hz u hu
end Go.Proofs.YtkkpdgfllnbigaaGreat
namespace Go.Proofs.YtkkpdgfllnbigaaGreat
open Go.RowKit Go.Shelf
set_option linter.unusedSimpArgs false
attribute [local go_sem] Oper.semAt_some

end Go.Proofs.YtkkpdgfllnbigaaGreat
namespace Go.Proofs.YtkkpdgfllnbigaaGreat
open Go.RowKit Go.Shelf
set_option linter.unusedSimpArgs false
attribute [local go_sem] Oper.semAt_some

theorem pushT {B : Nat} {w w2 : World} {ao : Option Addr} {c : Nat} {p : List El} (x : El) (H : Hid (Below B w w2 ∧ Oe w2 B (.slice ao p.length c) p)) (hB : B ≤ w.heap.size) (hp : p.length ≤ 200000) {ops : Array Oper} {rest : List Oper} {o : Oper} {a : Act} {Q : Exit → Act → World → Prop} (hg : o.guard = none) (s t : Operand) (ho : o.op = .call { callee := .builtin .append, args := #[s, t], argTypes := #[22, 22] })
      (hs : a.eval s = .slice ao p.length c) (ht : a.eval t = .slice (some ⟨w2.heap.size, 0, none⟩) 1 1)
      (hk : ∀ ao' cap' w', Hid ((ao' = none → cap' = 0) ∧ Below B w w' ∧ Oe w' B (.slice ao' (p.length + 1) cap') (p ++ [x])) → wpList Tryz.prog ops Q rest (a.put o.dst (.slice ao' (p.length + 1) cap')) w') :
      wpList Tryz.prog ops Q (o :: rest) a (w2.alloc (.cells (encE x).toArray 53)) := by
  have hb2 := H.out.1
  have hO := H.out.2
  have hbA : Below B w (w2.alloc (.cells (encE x).toArray 53)) := hb2.alloc (by have := hb2.size; omega) _
  refine wpList_pushE hg s t ho B _ p hs (hO.alloc _) w2.heap.size 1 x ht (heap_alloc_new w2 _) (by omega) (by simp; have := hb2.size; omega) ?_
  intro ao' cap' w' h1 h2 h3
  have hb := below_oe hbA (by simp; have := hb2.size; omega) (hO.alloc _) h2
  exact hk ao' cap' w' (hide ⟨h3, hb, h1⟩)

end Go.Proofs.YtkkpdgfllnbigaaGreat
