/-
  The document's Elements 67.
-/
import Derived.Test.YtkkpdgfllnbigaaGreatMg21
import Derived.Test.YtkkpdgfllnbigaaGreatMg10
import Derived.Test.YtkkpdgfllnbigaaGreatSort1
namespace Go.Proofs.YtkkpdgfllnbigaaGreat
open Go.RowKit Go.Shelf
set_option linter.unusedSimpArgs false
attribute [local go_sem] Oper.semAt_some

/-- A list is answered, owned. -/
def ChgE (w : World) (L : List El) (e : Ending) (w' : World) : Prop := ∃ a' c', e = .returned (.slice a' L.length c') ∧ Oe w' w.heap.size (.slice a' L.length c') L ∧ Below w.heap.size w w'
theorem pushT {B : Nat} {w w2 : World} {ao : Option Addr} {c : Nat} {p : List El} (x : El) (H : Hid (Below B w w2 ∧ Oe w2 B (.slice ao p.length c) p)) (hB : B ≤ w.heap.size) (hp : p.length ≤ 200000) {ops : Array Oper} {rest : List Oper} {o : Oper} {a : Act} {Q : Exit → Act → World → Prop} (hg : o.guard = none) (s t : Operand) (ho : o.op = .call { callee := .builtin .append, args := #[s, t], argTypes := #[22, 22] })
      (hs : a.eval s = .slice ao p.length c) (ht : a.eval t = .slice (some ⟨w2.heap.size, 0, none⟩) 1 1)
      (hk : ∀ ao' cap' w', Hid ((ao' = none → cap' = 0) ∧ Below B w w' ∧ Oe w' B (.slice ao' (p.length + 1) cap') (p ++ [x])) → wpList Tryz.prog ops Q rest (a.put o.dst (.slice ao' (p.length + 1) cap')) w') :
      wpList Tryz.prog ops Q (o :: rest) a (w2.alloc (.cells (encE x).toArray 53)) := by
  have hb2 := H.out.1
  have hO := H.out.2
  have hbA : Below B w (w2.alloc (.cells (encE x).toArray 53)) := hb2.alloc (by have := hb2.size; omega) _
  refine wpList_pushE hg s t ho B _ p hs (hO.alloc _) w2.heap.size 1 x ht (heap_alloc_new w2 _) (by omega) (by simp; have := hb2.size; omega) ?_
  intro ao' cap' w' h1 h2 h3
  have hb := below_oe hbA (by simp; have := hb2.size; omega) (hO.alloc _) h2
  exact hk ao' cap' w' (hide ⟨h3, hb, h1⟩)

theorem nextB {w a b : World} (h : Below w.heap.size w a) (k : Below a.heap.size a b) : Below w.heap.size w b := h.trans (k.mono h.size)
/-- What Elements' loop has made. -/
def ElI (w : World) (base a b : List El) (i k : Nat) (wr : World) (ao : Option Addr) (c : Nat) (p : List El) : Prop := p ++ togR base b (a.drop i) (b.drop k) = togL base a b ∧ Past a b i k ∧ (ao = none → c = 0) ∧ Below w.heap.size w wr ∧ Oe wr w.heap.size (.slice ao p.length c) p
set_option maxHeartbeats 16000000 in
set_option maxRecDepth 100000 in
theorem refElements_any {w : World} {oo ao' bo : Option Addr} {co ca cb : Nat} {base a b : List El} (ho : Re w oo base) (ha : Re w ao' a) (hb : Re w bo b) (hlo : base.length ≤ 1000000) (hla : a.length ≤ 1000) (hlb : b.length ≤ 1000) (ua : UpE a) (ub : UpE b) (hsz : ∀ x ∈ a, x.1.2.2.1.size ≤ 9223372036854775807) :
    Calls Tryz.prog 147 #[.slice oo base.length co, .slice ao' a.length ca, .slice bo b.length cb] w (ChgE w (togL base a b)) := by
  obtain ⟨NO, hNO⟩ : ∃ N, N = base.length := ⟨_, rfl⟩
  obtain ⟨NA, hNA⟩ : ∃ N, N = a.length := ⟨_, rfl⟩
  obtain ⟨NB, hNB⟩ : ∃ N, N = b.length := ⟨_, rfl⟩
  have kB0 : ∀ (s : St) W, Below w.heap.size w W → Calls Tryz.prog 195 #[.slice bo NB cb, svT s] W (FindE W s b) := fun s W hW => by rw [hNB]; exact find_any s (hb.below hW) (by omega)
  have kO0 : ∀ (s : St) W, Below w.heap.size w W → Calls Tryz.prog 195 #[.slice oo NO co, svT s] W (FindE W s base) := fun s W hW => by rw [hNO]; exact find_any s (ho.below hW) hlo
  rw [← hNO, ← hNA, ← hNB]
  have HU := hide (And.intro ua ub)
  have HN := hide (And.intro hNA (And.intro hNB (And.intro ha (And.intro hb hsz))))
  rw [← hNA] at hla
  rw [← hNB] at hlb
  clear hNO hNA hNB ho ha hb hlo hsz ua ub
  go_enter Tryz.func147, Tryz.ntmps147
  go_wp2
  go_loopw [7, 8, 9] (fun s iv kv wr => ∃ (i k : Nat) (p : List El) (ao : Option Addr) (c : Nat), i ≤ NA ∧ k ≤ NB ∧ p.length ≤ i + k ∧ iv = .int .i64 i ∧ kv = .int .i64 k ∧ s = .slice ao p.length c ∧ Hid (ElI w base a b i k wr ao c p)) (fun _ iv kv _ => NA + NB - (intOf iv).toNat - (intOf kv).toNat)
  case atStart => exact ⟨0, 0, [], none, 0, Nat.zero_le _, Nat.zero_le _, by simp, rfl, rfl, rfl, hide ⟨rfl, Past.start a b, fun _ => rfl, Below.refl _ _, Oe.nil _ _⟩⟩
  case round =>
    obtain ⟨i, k, p, ao, c, hi, hk, hpl, rfl, rfl, rfl, hP⟩ := hrel
    have HF0 := hide (And.intro hP.out.2.2.2.1 hP.out.2.2.2.2)
    by_cases hA : i < NA
    · have dA : decide (i < NA) = true := by simpa using hA
      have zA : (i : Int) < (NA : Int) := by omega
      obtain ⟨x, hx⟩ : ∃ x, a[i]? = some x := ⟨_, List.getElem?_eq_getElem (by rw [← HN.out.1]; exact hA)⟩
      obtain ⟨ba, oa, hao, q0, q1, q2, q3, q4, q5⟩ := (HN.out.2.2.1.below hP.out.2.2.2.1).cells hx
      have hxs := HN.out.2.2.2.2 x (List.mem_of_getElem? hx)
      obtain ⟨V1, hV1⟩ : ∃ V, V = standsB x.1 b := ⟨_, rfl⟩
      obtain ⟨V2, hV2⟩ : ∃ V, V = standsB x.1 base := ⟨_, rfl⟩
      have kB : ∀ W, Below w.heap.size w W → Calls Tryz.prog 195 #[.slice bo NB cb, svT x.1] W (fun e w' => ∃ n : Int, e = .returned (.int .i64 n) ∧ (V1 = true → 0 ≤ n) ∧ (V1 = false → n < 0) ∧ Below W.heap.size W w') := fun W hW => by rw [hV1]; exact kB0 x.1 W hW
      have kO : ∀ W, Below w.heap.size w W → Calls Tryz.prog 195 #[.slice oo NO co, svT x.1] W (fun e w' => ∃ n : Int, e = .returned (.int .i64 n) ∧ (V2 = true → 0 ≤ n) ∧ (V2 = false → n < 0) ∧ Below W.heap.size W w') := fun W hW => by rw [hV2]; exact kO0 x.1 W hW
      by_cases hB : k < NB
      · have dB : decide (k < NB) = true := by simpa using hB
        have zB : (k : Int) < (NB : Int) := by omega
        have nB : ¬ k = NB := by omega
        have eB : decide ((k : Int) = (NB : Int)) = false := by simpa using (by omega : ¬ (k : Int) = (NB : Int))
        have eB' : decide (k = NB) = false := by simpa using nB
        obtain ⟨y, hy⟩ : ∃ y, b[k]? = some y := ⟨_, List.getElem?_eq_getElem (by rw [← HN.out.2.1]; exact hB)⟩
        obtain ⟨bb, ob, hbo, s0, s1, s2, s3, s4, s5⟩ := (HN.out.2.2.2.1.below hP.out.2.2.2.1).cells hy
        obtain ⟨V3, hV3⟩ : ∃ V, V = standsB y.1 base := ⟨_, rfl⟩
        have kOy : ∀ W, Below w.heap.size w W → Calls Tryz.prog 195 #[.slice oo NO co, svT y.1] W (fun e w' => ∃ n : Int, e = .returned (.int .i64 n) ∧ (V3 = true → 0 ≤ n) ∧ (V3 = false → n < 0) ∧ Below W.heap.size W w') := fun W hW => by rw [hV3]; exact kO0 y.1 W hW
        obtain ⟨CZ, hCZ⟩ : ∃ C, C = cmpS x.1.1 x.1.2.1 x.1.2.2.1 x.1.2.2.2.1 x.1.2.2.2.2 y.1.1 y.1.2.1 y.1.2.2.1 y.1.2.2.2.1 y.1.2.2.2.2 := ⟨_, rfl⟩
        have k63 : ∀ W, Calls Tryz.prog 114 #[sv x.1.1 x.1.2.1 x.1.2.2.1 x.1.2.2.2.1 x.1.2.2.2.2, sv y.1.1 y.1.2.1 y.1.2.2.1 y.1.2.2.2.1 y.1.2.2.2.2] W fun e w' => e = .returned (.int .i64 CZ) ∧ Below W.heap.size W w' := fun W => (refCmpS_grow x.1.1 x.1.2.1 x.1.2.2.1 x.1.2.2.2.1 x.1.2.2.2.2 y.1.1 y.1.2.1 y.1.2.2.1 y.1.2.2.2.1 y.1.2.2.2.2 W hxs).mono fun e w' hh => ⟨by rw [hCZ, cmp_lexS]; exact hh.1, hh.2.low⟩
        have hcz : CZ = cmpT x.1 y.1 := by rw [hCZ, cmpS_eq]
        clear hCZ
        subst hao
        subst hbo
        by_cases hle : CZ ≤ 0
        · have dz : decide (CZ ≤ 0) = true := by simpa using hle
          have hStep : togR base b (a.drop i) (b.drop k) = (if (V1 || !V2) = true then [x] else []) ++ (if V1 = true then togR base b (a.drop (i + 1)) (b.drop (k + 1)) else togR base b (a.drop (i + 1)) (b.drop k)) := by
            rw [drop_at hx, drop_at hy, hV1, hV2]; exact togR_le _ _ _ _ _ _ (by rw [← hcz]; exact hle)
          have hSame : V1 = true → y.1 = x.1 := fun h => hP.out.2.1.same HU.out.2 hx hy (by rw [← hcz]; exact hle) (by rw [← hV1]; exact h)
          have HX := hide (And.intro hx hStep)
          have HY := hide hy
          have HSm := hide hSame
          clear hStep hSame hx hy hcz hV1 hV2 hV3 hxs
          obtain ⟨⟨g, r, l0, n0, i0⟩, t0⟩ := x
          obtain ⟨⟨g1, r1, l1, n1, i1⟩, t1⟩ := y
          dsimp only at q0 q1 q2 q3 q4 q5 s0 s1 s2 s3 s4 s5 k63 kB kO kOy
          have hS : wr.cell? ⟨ba, oa + i * 6, none⟩ = some (.int .i64 g) ∧ wr.cell? ⟨ba, oa + i * 6 + 1, none⟩ = some (.int .i64 r) ∧ wr.cell? ⟨ba, oa + i * 6 + 2, none⟩ = some (.string l0) ∧ wr.cell? ⟨ba, oa + i * 6 + 3, none⟩ = some (.int .i64 n0) ∧ wr.cell? ⟨ba, oa + i * 6 + 4, none⟩ = some (.int .i64 i0) ∧ wr.cell? ⟨ba, oa + i * 6 + 5, none⟩ = some (.string t0) ∧ wr.cell? ⟨bb, ob + k * 6, none⟩ = some (.int .i64 g1) ∧ wr.cell? ⟨bb, ob + k * 6 + 1, none⟩ = some (.int .i64 r1) ∧ wr.cell? ⟨bb, ob + k * 6 + 2, none⟩ = some (.string l1) ∧ wr.cell? ⟨bb, ob + k * 6 + 3, none⟩ = some (.int .i64 n1) ∧ wr.cell? ⟨bb, ob + k * 6 + 4, none⟩ = some (.int .i64 i1) ∧ wr.cell? ⟨bb, ob + k * 6 + 5, none⟩ = some (.string t1) ∧ Below wr.heap.size wr wr := ⟨q0, q1, q2, q3, q4, q5, s0, s1, s2, s3, s4, s5, Below.refl _ _⟩
          go_upto_region 4 with fail
          have HQ := hide (And.intro q0 (And.intro q1 (And.intro q2 (And.intro q3 (And.intro q4 q5)))))
          clear q0 q1 q2 q3 q4 q5 s0 s1 s2 s3 s4 s5
          have qd : wr.drew.cell? ⟨ba, oa + i * 6, none⟩ = some (.int .i64 g) ∧ wr.drew.cell? ⟨ba, oa + i * 6 + 1, none⟩ = some (.int .i64 r) ∧ wr.drew.cell? ⟨ba, oa + i * 6 + 2, none⟩ = some (.string l0) ∧ wr.drew.cell? ⟨ba, oa + i * 6 + 3, none⟩ = some (.int .i64 n0) ∧ wr.drew.cell? ⟨ba, oa + i * 6 + 4, none⟩ = some (.int .i64 i0) ∧ wr.drew.cell? ⟨ba, oa + i * 6 + 5, none⟩ = some (.string t0) ∧ wr.drew.cell? ⟨bb, ob + k * 6, none⟩ = some (.int .i64 g1) ∧ wr.drew.cell? ⟨bb, ob + k * 6 + 1, none⟩ = some (.int .i64 r1) ∧ wr.drew.cell? ⟨bb, ob + k * 6 + 2, none⟩ = some (.string l1) ∧ wr.drew.cell? ⟨bb, ob + k * 6 + 3, none⟩ = some (.int .i64 n1) ∧ wr.drew.cell? ⟨bb, ob + k * 6 + 4, none⟩ = some (.int .i64 i1) ∧ wr.drew.cell? ⟨bb, ob + k * 6 + 5, none⟩ = some (.string t1) ∧ Below wr.heap.size wr wr.drew := ⟨cell_stays hS.1 (drew_below wr), cell_stays hS.2.1 (drew_below wr), cell_stays hS.2.2.1 (drew_below wr), cell_stays hS.2.2.2.1 (drew_below wr), cell_stays hS.2.2.2.2.1 (drew_below wr), cell_stays hS.2.2.2.2.2.1 (drew_below wr), cell_stays hS.2.2.2.2.2.2.1 (drew_below wr), cell_stays hS.2.2.2.2.2.2.2.1 (drew_below wr), cell_stays hS.2.2.2.2.2.2.2.2.1 (drew_below wr), cell_stays hS.2.2.2.2.2.2.2.2.2.1 (drew_below wr), cell_stays hS.2.2.2.2.2.2.2.2.2.2.1 (drew_below wr), cell_stays hS.2.2.2.2.2.2.2.2.2.2.2.1 (drew_below wr), nextB hS.2.2.2.2.2.2.2.2.2.2.2.2 (drew_below wr)⟩
          refine wp_region_held_drew (S := (fun w' => w'.cell? ⟨ba, oa + i * 6, none⟩ = some (.int .i64 g) ∧ w'.cell? ⟨ba, oa + i * 6 + 1, none⟩ = some (.int .i64 r) ∧ w'.cell? ⟨ba, oa + i * 6 + 2, none⟩ = some (.string l0) ∧ w'.cell? ⟨ba, oa + i * 6 + 3, none⟩ = some (.int .i64 n0) ∧ w'.cell? ⟨ba, oa + i * 6 + 4, none⟩ = some (.int .i64 i0) ∧ w'.cell? ⟨ba, oa + i * 6 + 5, none⟩ = some (.string t0) ∧ w'.cell? ⟨bb, ob + k * 6, none⟩ = some (.int .i64 g1) ∧ w'.cell? ⟨bb, ob + k * 6 + 1, none⟩ = some (.int .i64 r1) ∧ w'.cell? ⟨bb, ob + k * 6 + 2, none⟩ = some (.string l1) ∧ w'.cell? ⟨bb, ob + k * 6 + 3, none⟩ = some (.int .i64 n1) ∧ w'.cell? ⟨bb, ob + k * 6 + 4, none⟩ = some (.int .i64 i1) ∧ w'.cell? ⟨bb, ob + k * 6 + 5, none⟩ = some (.string t1) ∧ Below wr.heap.size wr w')) (by kernel_rfl) qd (fun hHeld => ?_)
          try dsimp only at hHeld
          refine take_op (i := 0) (d := 21) (OP := Op.move (Operand.tmp 9)) (T := 3) (v := ?v7) rfl rfl rfl rfl (by kernel_rfl) (by kernel_rfl) (by kernel_rfl) (fun _ _ _ h => h) (by rfl) ?h7 hHeld ?r7
          case h7 => (intro w' hSw; (try dsimp only at hSw); go_simp <;> with_reducible rfl)
          try simp only [Act.put, sI, sZ, sS]
          refine take_op (i := 1) (d := 22) (OP := Op.move (Operand.tmp 2)) (T := 22) (v := ?v8) rfl rfl rfl rfl (by kernel_rfl) (by kernel_rfl) (by kernel_rfl) (fun _ _ _ h => h) (by rfl) ?h8 hHeld ?r8
          case h8 => (intro w' hSw; (try dsimp only at hSw); go_simp <;> with_reducible rfl)
          try simp only [Act.put, sI, sZ, sS]
          refine take_op (i := 2) (d := 23) (OP := Op.call { callee := Callee.builtin Builtin.len, args := #[Operand.tmp 22], argTypes := #[22] }) (T := 3) (v := ?v9) rfl rfl rfl rfl (by kernel_rfl) (by kernel_rfl) (by kernel_rfl) (fun _ _ _ h => h) (by rfl) ?h9 hHeld ?r9
          case h9 => (intro w' hSw; (try dsimp only at hSw); go_simp <;> with_reducible rfl)
          try simp only [Act.put, sI, sZ, sS]
          refine take_op (i := 3) (d := 24) (OP := Op.binOp BinOp.eql 3 (Operand.tmp 21) (Operand.tmp 23) 3) (T := 4) (v := .bool false) rfl rfl rfl rfl (by kernel_rfl) (by kernel_rfl) (by kernel_rfl) (fun _ _ _ h => h) (by rfl) ?h10 hHeld ?r10
          case h10 => (intro w' hSw; (try dsimp only at hSw); go_simp <;> (first | with_reducible rfl | (simp; done) | (simp; omega) | omega))
          try simp only [Act.put, sI, sZ, sS]
          refine take_op (i := 4) (d := 25) (OP := Op.move (Operand.tmp 24)) (T := 4) (v := ?v11) rfl rfl rfl rfl (by kernel_rfl) (by kernel_rfl) (by kernel_rfl) (fun _ _ _ h => h) (by rfl) ?h11 hHeld ?r11
          case h11 => (intro w' hSw; (try dsimp only at hSw); go_simp <;> with_reducible rfl)
          try simp only [Act.put, sI, sZ, sS]
          refine take_op (i := 5) (d := 26) (OP := Op.move (Operand.tmp 8)) (T := 3) (v := ?v12) rfl rfl rfl rfl (by kernel_rfl) (by kernel_rfl) (by kernel_rfl) (fun _ _ _ h => h) (by rfl) ?h12 hHeld ?r12
          case h12 => (intro w' hSw; (try dsimp only at hSw); go_simp <;> with_reducible rfl)
          try simp only [Act.put, sI, sZ, sS]
          refine take_op (i := 6) (d := 27) (OP := Op.move (Operand.tmp 1)) (T := 22) (v := ?v13) rfl rfl rfl rfl (by kernel_rfl) (by kernel_rfl) (by kernel_rfl) (fun _ _ _ h => h) (by rfl) ?h13 hHeld ?r13
          case h13 => (intro w' hSw; (try dsimp only at hSw); go_simp <;> with_reducible rfl)
          try simp only [Act.put, sI, sZ, sS]
          refine take_op (i := 7) (d := 28) (OP := Op.call { callee := Callee.builtin Builtin.len, args := #[Operand.tmp 27], argTypes := #[22] }) (T := 3) (v := ?v14) rfl rfl rfl rfl (by kernel_rfl) (by kernel_rfl) (by kernel_rfl) (fun _ _ _ h => h) (by rfl) ?h14 hHeld ?r14
          case h14 => (intro w' hSw; (try dsimp only at hSw); go_simp <;> with_reducible rfl)
          try simp only [Act.put, sI, sZ, sS]
          refine take_op (i := 8) (d := 29) (OP := Op.binOp BinOp.lss 3 (Operand.tmp 26) (Operand.tmp 28) 3) (T := 4) (v := ?v15) rfl rfl rfl rfl (by kernel_rfl) (by kernel_rfl) (by kernel_rfl) (fun _ _ _ h => h) (by rfl) ?h15 hHeld ?r15
          case h15 => (intro w' hSw; (try dsimp only at hSw); go_simp <;> with_reducible rfl)
          try simp only [Act.put, sI, sZ, sS]
          refine take_op (i := 9) (d := 30) (OP := Op.move (Operand.tmp 29)) (T := 4) (v := ?v16) rfl rfl rfl rfl (by kernel_rfl) (by kernel_rfl) (by kernel_rfl) (fun _ _ _ h => h) (by rfl) ?h16 hHeld ?r16
          case h16 => (intro w' hSw; (try dsimp only at hSw); go_simp <;> with_reducible rfl)
          try simp only [Act.put, sI, sZ, sS]
          refine take_op (i := 10) (d := 31) (OP := Op.move (Operand.tmp 1)) (T := 22) (v := ?v17) rfl rfl rfl rfl (by kernel_rfl) (by kernel_rfl) (by kernel_rfl) (fun _ _ _ h => h) (by rfl) ?h17 hHeld ?r17
          case h17 => (intro w' hSw; (try dsimp only at hSw); go_simp <;> with_reducible rfl)
          try simp only [Act.put, sI, sZ, sS]
          refine take_op (i := 11) (d := 32) (OP := Op.move (Operand.tmp 8)) (T := 3) (v := ?v18) rfl rfl rfl rfl (by kernel_rfl) (by kernel_rfl) (by kernel_rfl) (fun _ _ _ h => h) (by rfl) ?h18 hHeld ?r18
          case h18 => (intro w' hSw; (try dsimp only at hSw); go_simp <;> with_reducible rfl)
          try simp only [Act.put, sI, sZ, sS]
          refine take_op (i := 12) (d := 33) (OP := Op.indexAddr 22 (Operand.tmp 31) (Operand.tmp 32)) (T := 0) (v := ?v19) rfl rfl rfl rfl (by kernel_rfl) (by kernel_rfl) (by kernel_rfl) (fun _ _ _ h => h) (by rfl) ?h19 hHeld ?r19
          case h19 => (intro w' hSw; (try dsimp only at hSw); go_simp <;> with_reducible rfl)
          try simp only [Act.put, sI, sZ, sS]
          refine take_op (i := 13) (d := 34) (OP := Op.fieldAddr 53 (Operand.tmp 33) 0) (T := 0) (v := ?v20) rfl rfl rfl rfl (by kernel_rfl) (by kernel_rfl) (by kernel_rfl) (fun _ _ _ h => h) (by rfl) ?h20 hHeld ?r20
          case h20 => (intro w' hSw; (try dsimp only at hSw); go_simp <;> with_reducible rfl)
          try simp only [Act.put, sI, sZ, sS]
          refine take_op (i := 14) (d := 35) (OP := Op.load 43 (Operand.tmp 34)) (T := 43) (v := ?v21) rfl rfl rfl rfl (by kernel_rfl) (by kernel_rfl) (by kernel_rfl) (fun _ _ _ h => h) (by rfl) ?h21 hHeld ?r21
          case h21 => (intro w' hSw; (try dsimp only at hSw); go_simp <;> with_reducible rfl)
          try simp only [Act.put, sI, sZ, sS]
          refine take_op (i := 15) (d := 36) (OP := Op.move (Operand.tmp 2)) (T := 22) (v := ?v22) rfl rfl rfl rfl (by kernel_rfl) (by kernel_rfl) (by kernel_rfl) (fun _ _ _ h => h) (by rfl) ?h22 hHeld ?r22
          case h22 => (intro w' hSw; (try dsimp only at hSw); go_simp <;> with_reducible rfl)
          try simp only [Act.put, sI, sZ, sS]
          refine take_op (i := 16) (d := 37) (OP := Op.move (Operand.tmp 9)) (T := 3) (v := ?v23) rfl rfl rfl rfl (by kernel_rfl) (by kernel_rfl) (by kernel_rfl) (fun _ _ _ h => h) (by rfl) ?h23 hHeld ?r23
          case h23 => (intro w' hSw; (try dsimp only at hSw); go_simp <;> with_reducible rfl)
          try simp only [Act.put, sI, sZ, sS]
          refine take_op (i := 17) (d := 38) (OP := Op.indexAddr 22 (Operand.tmp 36) (Operand.tmp 37)) (T := 0) (v := ?v24) rfl rfl rfl rfl (by kernel_rfl) (by kernel_rfl) (by kernel_rfl) (fun _ _ _ h => h) (by rfl) ?h24 hHeld ?r24
          case h24 => (intro w' hSw; (try dsimp only at hSw); go_simp <;> with_reducible rfl)
          try simp only [Act.put, sI, sZ, sS]
          refine take_op (i := 18) (d := 39) (OP := Op.fieldAddr 53 (Operand.tmp 38) 0) (T := 0) (v := ?v25) rfl rfl rfl rfl (by kernel_rfl) (by kernel_rfl) (by kernel_rfl) (fun _ _ _ h => h) (by rfl) ?h25 hHeld ?r25
          case h25 => (intro w' hSw; (try dsimp only at hSw); go_simp <;> with_reducible rfl)
          try simp only [Act.put, sI, sZ, sS]
          refine take_op (i := 19) (d := 40) (OP := Op.load 43 (Operand.tmp 39)) (T := 43) (v := ?v26) rfl rfl rfl rfl (by kernel_rfl) (by kernel_rfl) (by kernel_rfl) (fun _ _ _ h => h) (by rfl) ?h26 hHeld ?r26
          case h26 => (intro w' hSw; (try dsimp only at hSw); go_simp <;> with_reducible rfl)
          try simp only [Act.put, sI, sZ, sS]
          refine call_op (i := 20) (d := 41) (OP := Op.call { callee := Callee.value (Operand.func 114), args := #[Operand.tmp 35, Operand.tmp 40], argTypes := #[43, 43] }) (T := 3) (f := 114) (args := #[.agg #[.int .i64 g, .int .i64 r, .string l0, .int .i64 n0, .int .i64 i0], .agg #[.int .i64 g1, .int .i64 r1, .string l1, .int .i64 n1, .int .i64 i1]]) rfl rfl rfl rfl (by kernel_rfl) (by rfl) (by go_simp) ?_
          refine (k63 _).mono ?_
          rintro e z0 ⟨rfl, bz0⟩
          have qz0 : z0.cell? ⟨ba, oa + i * 6, none⟩ = some (.int .i64 g) ∧ z0.cell? ⟨ba, oa + i * 6 + 1, none⟩ = some (.int .i64 r) ∧ z0.cell? ⟨ba, oa + i * 6 + 2, none⟩ = some (.string l0) ∧ z0.cell? ⟨ba, oa + i * 6 + 3, none⟩ = some (.int .i64 n0) ∧ z0.cell? ⟨ba, oa + i * 6 + 4, none⟩ = some (.int .i64 i0) ∧ z0.cell? ⟨ba, oa + i * 6 + 5, none⟩ = some (.string t0) ∧ z0.cell? ⟨bb, ob + k * 6, none⟩ = some (.int .i64 g1) ∧ z0.cell? ⟨bb, ob + k * 6 + 1, none⟩ = some (.int .i64 r1) ∧ z0.cell? ⟨bb, ob + k * 6 + 2, none⟩ = some (.string l1) ∧ z0.cell? ⟨bb, ob + k * 6 + 3, none⟩ = some (.int .i64 n1) ∧ z0.cell? ⟨bb, ob + k * 6 + 4, none⟩ = some (.int .i64 i1) ∧ z0.cell? ⟨bb, ob + k * 6 + 5, none⟩ = some (.string t1) ∧ Below wr.heap.size wr z0 := ⟨cell_stays hHeld.1 bz0, cell_stays hHeld.2.1 bz0, cell_stays hHeld.2.2.1 bz0, cell_stays hHeld.2.2.2.1 bz0, cell_stays hHeld.2.2.2.2.1 bz0, cell_stays hHeld.2.2.2.2.2.1 bz0, cell_stays hHeld.2.2.2.2.2.2.1 bz0, cell_stays hHeld.2.2.2.2.2.2.2.1 bz0, cell_stays hHeld.2.2.2.2.2.2.2.2.1 bz0, cell_stays hHeld.2.2.2.2.2.2.2.2.2.1 bz0, cell_stays hHeld.2.2.2.2.2.2.2.2.2.2.1 bz0, cell_stays hHeld.2.2.2.2.2.2.2.2.2.2.2.1 bz0, nextB hHeld.2.2.2.2.2.2.2.2.2.2.2.2 bz0⟩
          refine ⟨_, rfl, qz0, ?_⟩
          replace hHeld := qz0
          try simp only [Act.put, sI, sZ, sS]
          refine take_op (i := 21) (d := 42) (OP := Op.binOp BinOp.leq 3 (Operand.tmp 41) (Operand.const (Value.int IntKind.i64 0)) 3) (T := 4) (v := ?v27) rfl rfl rfl rfl (by kernel_rfl) (by kernel_rfl) (by kernel_rfl) (fun _ _ _ h => h) (by rfl) ?h27 hHeld ?r27
          case h27 => (intro w' hSw; (try dsimp only at hSw); go_simp <;> with_reducible rfl)
          try simp only [Act.put, sI, sZ, sS]
          refine take_op (i := 22) (d := 43) (OP := Op.pick (Operand.tmp 30) (Operand.tmp 42) (Operand.const (Value.bool false))) (T := 4) (v := ?v28) rfl rfl rfl rfl (by kernel_rfl) (by kernel_rfl) (by kernel_rfl) (fun _ _ _ h => h) (by rfl) ?h28 hHeld ?r28
          case h28 => (intro w' hSw; (try dsimp only at hSw); go_simp <;> with_reducible rfl)
          try simp only [Act.put, sI, sZ, sS]
          refine take_op (i := 23) (d := 44) (OP := Op.pick (Operand.tmp 25) (Operand.const (Value.bool true)) (Operand.tmp 43)) (T := 4) (v := ?v29) rfl rfl rfl rfl (by kernel_rfl) (by kernel_rfl) (by kernel_rfl) (fun _ _ _ h => h) (by rfl) ?h29 hHeld ?r29
          case h29 => (intro w' hSw; (try dsimp only at hSw); go_simp <;> with_reducible rfl)
          try simp only [Act.put, sI, sZ, sS]
          refine wpAnyH_done (by kernel_rfl) ?_ _
          have HE := hide hHeld.2.2.2.2.2.2.2.2.2.2.2.2
          clear hHeld qd hS
          have HF := hide (And.intro (HF0.out.1.trans (HE.out.mono HF0.out.1.size)) (HF0.out.2.below HE.out))
          obtain ⟨q0, q1, q2, q3, q4, q5⟩ := HQ.out
          replace q0 := cell_stays q0 HE.out
          replace q1 := cell_stays q1 HE.out
          replace q2 := cell_stays q2 HE.out
          replace q3 := cell_stays q3 HE.out
          replace q4 := cell_stays q4 HE.out
          replace q5 := cell_stays q5 HE.out
          cases V1
          · cases V2
            · skip

              skip
              go_wp2_with (first
                | (go_at_call 195; refine (kB _ HF.out.1).mono ?_; rintro e w2 ⟨u1, rfl, hu1a, hu1b, bw2⟩; replace q0 := cell_stays q0 bw2; replace q1 := cell_stays q1 bw2; replace q2 := cell_stays q2 bw2; replace q3 := cell_stays q3 bw2; replace q4 := cell_stays q4 bw2; replace q5 := cell_stays q5 bw2; have H2 := hide (And.intro (HF.out.1.trans (bw2.mono HF.out.1.size)) (HF.out.2.below bw2)); have fu1 : u1 < 0 := (by simpa using hu1b); have fu1' : decide (u1 < 0) = true := (by simpa using fu1); have fu1'' : ¬ (0 : Int) ≤ u1 := (by omega); have fu13 : decide ((0 : Int) ≤ u1) = false := (by simpa using fu1''); clear hu1a hu1b bw2 kB; try dsimp only)
                | (go_at_call 195; refine (kO _ H2.out.1).mono ?_; rintro e w3 ⟨u2, rfl, hu2a, hu2b, bw3⟩; replace q0 := cell_stays q0 bw3; replace q1 := cell_stays q1 bw3; replace q2 := cell_stays q2 bw3; replace q3 := cell_stays q3 bw3; replace q4 := cell_stays q4 bw3; replace q5 := cell_stays q5 bw3; have H3 := hide (And.intro (H2.out.1.trans (bw3.mono H2.out.1.size)) (H2.out.2.below bw3)); have fu2 : u2 < 0 := (by simpa using hu2b); have fu2' : decide (u2 < 0) = true := (by simpa using fu2); have fu2'' : ¬ (0 : Int) ≤ u2 := (by omega); have fu23 : decide ((0 : Int) ≤ u2) = false := (by simpa using fu2''); clear hu2a hu2b bw3 kO; try dsimp only)
                | (refine pushT ((g, r, l0, n0, i0), t0) H3 (Nat.le_refl _) (by omega) rfl _ _ rfl rfl rfl ?_; intro a4 c4' w4 H4))
              go_roundw
              case rel => exact ⟨i + 1, k, p ++ [((g, r, l0, n0, i0), t0)], a4, c4', by omega, by omega, by rw [List.length_append]; simp; omega, by go_num, by go_num, by rw [List.length_append]; rfl, hide ⟨(by rw [← hP.out.1, HX.out.2]; simp), hP.out.2.1.left, H4.out.1, H4.out.2.1, by rw [List.length_append]; exact H4.out.2.2⟩⟩
              case measure => simp [intOf]; omega
            · skip

              skip
              go_wp2_with (first
                | (go_at_call 195; refine (kB _ HF.out.1).mono ?_; rintro e w2 ⟨u1, rfl, hu1a, hu1b, bw2⟩; replace q0 := cell_stays q0 bw2; replace q1 := cell_stays q1 bw2; replace q2 := cell_stays q2 bw2; replace q3 := cell_stays q3 bw2; replace q4 := cell_stays q4 bw2; replace q5 := cell_stays q5 bw2; have H2 := hide (And.intro (HF.out.1.trans (bw2.mono HF.out.1.size)) (HF.out.2.below bw2)); have fu1 : u1 < 0 := (by simpa using hu1b); have fu1' : decide (u1 < 0) = true := (by simpa using fu1); have fu1'' : ¬ (0 : Int) ≤ u1 := (by omega); have fu13 : decide ((0 : Int) ≤ u1) = false := (by simpa using fu1''); clear hu1a hu1b bw2 kB; try dsimp only)
                | (go_at_call 195; refine (kO _ H2.out.1).mono ?_; rintro e w3 ⟨u2, rfl, hu2a, hu2b, bw3⟩; replace q0 := cell_stays q0 bw3; replace q1 := cell_stays q1 bw3; replace q2 := cell_stays q2 bw3; replace q3 := cell_stays q3 bw3; replace q4 := cell_stays q4 bw3; replace q5 := cell_stays q5 bw3; have H3 := hide (And.intro (H2.out.1.trans (bw3.mono H2.out.1.size)) (H2.out.2.below bw3)); have fu2 : (0 : Int) ≤ u2 := (by simpa using hu2a); have fu2' : decide ((0 : Int) ≤ u2) = true := (by simpa using fu2); have fu2'' : ¬ u2 < 0 := (by omega); have fu23 : decide (u2 < 0) = false := (by simpa using fu2''); clear hu2a hu2b bw3 kO; try dsimp only))
              go_roundw
              case rel => exact ⟨i + 1, k, p, ao, c, by omega, by omega, by omega, by go_num, by go_num, rfl, hide ⟨(by rw [← hP.out.1, HX.out.2]; simp), hP.out.2.1.left, hP.out.2.2.1, H3.out.1, H3.out.2⟩⟩
              case measure => simp [intOf]; omega
          · skip

            skip
            go_wp2_with (first
              | (go_at_call 195; refine (kB _ HF.out.1).mono ?_; rintro e w2 ⟨u1, rfl, hu1a, hu1b, bw2⟩; replace q0 := cell_stays q0 bw2; replace q1 := cell_stays q1 bw2; replace q2 := cell_stays q2 bw2; replace q3 := cell_stays q3 bw2; replace q4 := cell_stays q4 bw2; replace q5 := cell_stays q5 bw2; have H2 := hide (And.intro (HF.out.1.trans (bw2.mono HF.out.1.size)) (HF.out.2.below bw2)); have fu1 : (0 : Int) ≤ u1 := (by simpa using hu1a); have fu1' : decide ((0 : Int) ≤ u1) = true := (by simpa using fu1); have fu1'' : ¬ u1 < 0 := (by omega); have fu13 : decide (u1 < 0) = false := (by simpa using fu1''); clear hu1a hu1b bw2 kB; try dsimp only)
              | (refine pushT ((g, r, l0, n0, i0), t0) H2 (Nat.le_refl _) (by omega) rfl _ _ rfl rfl rfl ?_; intro a4 c4' w4 H4))
            go_roundw
            case rel => exact ⟨i + 1, k + 1, p ++ [((g, r, l0, n0, i0), t0)], a4, c4', by omega, by omega, by rw [List.length_append]; simp; omega, by go_num, by go_num, by rw [List.length_append]; rfl, hide ⟨(by rw [← hP.out.1, HX.out.2]; simp), (hP.out.2.1.both HU.out.1 HX.out.1 HY.out (HSm.out rfl)), H4.out.1, H4.out.2.1, by rw [List.length_append]; exact H4.out.2.2⟩⟩
            case measure => simp [intOf]; omega
        · have dz : decide (CZ ≤ 0) = false := by simpa using hle
          have hStep : togR base b (a.drop i) (b.drop k) = (if V3 = true then [] else [y]) ++ togR base b (a.drop i) (b.drop (k + 1)) := by
            rw [drop_at hx, drop_at hy, hV3]; exact togR_gt _ _ _ _ _ _ (by rw [← hcz]; exact hle)
          have hgt : Hid (¬ cmpT x.1 y.1 ≤ 0) := hide (by rw [← hcz]; exact hle)
          have HX := hide (And.intro hx hStep)
          have HY := hide hy
          clear hStep hx hy hcz hV1 hV2 hV3 hxs
          obtain ⟨⟨g, r, l0, n0, i0⟩, t0⟩ := x
          obtain ⟨⟨g1, r1, l1, n1, i1⟩, t1⟩ := y
          dsimp only at q0 q1 q2 q3 q4 q5 s0 s1 s2 s3 s4 s5 k63 kB kO kOy
          have hS : wr.cell? ⟨ba, oa + i * 6, none⟩ = some (.int .i64 g) ∧ wr.cell? ⟨ba, oa + i * 6 + 1, none⟩ = some (.int .i64 r) ∧ wr.cell? ⟨ba, oa + i * 6 + 2, none⟩ = some (.string l0) ∧ wr.cell? ⟨ba, oa + i * 6 + 3, none⟩ = some (.int .i64 n0) ∧ wr.cell? ⟨ba, oa + i * 6 + 4, none⟩ = some (.int .i64 i0) ∧ wr.cell? ⟨ba, oa + i * 6 + 5, none⟩ = some (.string t0) ∧ wr.cell? ⟨bb, ob + k * 6, none⟩ = some (.int .i64 g1) ∧ wr.cell? ⟨bb, ob + k * 6 + 1, none⟩ = some (.int .i64 r1) ∧ wr.cell? ⟨bb, ob + k * 6 + 2, none⟩ = some (.string l1) ∧ wr.cell? ⟨bb, ob + k * 6 + 3, none⟩ = some (.int .i64 n1) ∧ wr.cell? ⟨bb, ob + k * 6 + 4, none⟩ = some (.int .i64 i1) ∧ wr.cell? ⟨bb, ob + k * 6 + 5, none⟩ = some (.string t1) ∧ Below wr.heap.size wr wr := ⟨q0, q1, q2, q3, q4, q5, s0, s1, s2, s3, s4, s5, Below.refl _ _⟩
          go_upto_region 4 with fail
          have HQ := hide (And.intro s0 (And.intro s1 (And.intro s2 (And.intro s3 (And.intro s4 s5)))))
          clear q0 q1 q2 q3 q4 q5 s0 s1 s2 s3 s4 s5
          have qd : wr.drew.cell? ⟨ba, oa + i * 6, none⟩ = some (.int .i64 g) ∧ wr.drew.cell? ⟨ba, oa + i * 6 + 1, none⟩ = some (.int .i64 r) ∧ wr.drew.cell? ⟨ba, oa + i * 6 + 2, none⟩ = some (.string l0) ∧ wr.drew.cell? ⟨ba, oa + i * 6 + 3, none⟩ = some (.int .i64 n0) ∧ wr.drew.cell? ⟨ba, oa + i * 6 + 4, none⟩ = some (.int .i64 i0) ∧ wr.drew.cell? ⟨ba, oa + i * 6 + 5, none⟩ = some (.string t0) ∧ wr.drew.cell? ⟨bb, ob + k * 6, none⟩ = some (.int .i64 g1) ∧ wr.drew.cell? ⟨bb, ob + k * 6 + 1, none⟩ = some (.int .i64 r1) ∧ wr.drew.cell? ⟨bb, ob + k * 6 + 2, none⟩ = some (.string l1) ∧ wr.drew.cell? ⟨bb, ob + k * 6 + 3, none⟩ = some (.int .i64 n1) ∧ wr.drew.cell? ⟨bb, ob + k * 6 + 4, none⟩ = some (.int .i64 i1) ∧ wr.drew.cell? ⟨bb, ob + k * 6 + 5, none⟩ = some (.string t1) ∧ Below wr.heap.size wr wr.drew := ⟨cell_stays hS.1 (drew_below wr), cell_stays hS.2.1 (drew_below wr), cell_stays hS.2.2.1 (drew_below wr), cell_stays hS.2.2.2.1 (drew_below wr), cell_stays hS.2.2.2.2.1 (drew_below wr), cell_stays hS.2.2.2.2.2.1 (drew_below wr), cell_stays hS.2.2.2.2.2.2.1 (drew_below wr), cell_stays hS.2.2.2.2.2.2.2.1 (drew_below wr), cell_stays hS.2.2.2.2.2.2.2.2.1 (drew_below wr), cell_stays hS.2.2.2.2.2.2.2.2.2.1 (drew_below wr), cell_stays hS.2.2.2.2.2.2.2.2.2.2.1 (drew_below wr), cell_stays hS.2.2.2.2.2.2.2.2.2.2.2.1 (drew_below wr), nextB hS.2.2.2.2.2.2.2.2.2.2.2.2 (drew_below wr)⟩
          refine wp_region_held_drew (S := (fun w' => w'.cell? ⟨ba, oa + i * 6, none⟩ = some (.int .i64 g) ∧ w'.cell? ⟨ba, oa + i * 6 + 1, none⟩ = some (.int .i64 r) ∧ w'.cell? ⟨ba, oa + i * 6 + 2, none⟩ = some (.string l0) ∧ w'.cell? ⟨ba, oa + i * 6 + 3, none⟩ = some (.int .i64 n0) ∧ w'.cell? ⟨ba, oa + i * 6 + 4, none⟩ = some (.int .i64 i0) ∧ w'.cell? ⟨ba, oa + i * 6 + 5, none⟩ = some (.string t0) ∧ w'.cell? ⟨bb, ob + k * 6, none⟩ = some (.int .i64 g1) ∧ w'.cell? ⟨bb, ob + k * 6 + 1, none⟩ = some (.int .i64 r1) ∧ w'.cell? ⟨bb, ob + k * 6 + 2, none⟩ = some (.string l1) ∧ w'.cell? ⟨bb, ob + k * 6 + 3, none⟩ = some (.int .i64 n1) ∧ w'.cell? ⟨bb, ob + k * 6 + 4, none⟩ = some (.int .i64 i1) ∧ w'.cell? ⟨bb, ob + k * 6 + 5, none⟩ = some (.string t1) ∧ Below wr.heap.size wr w')) (by kernel_rfl) qd (fun hHeld => ?_)
          try dsimp only at hHeld
          refine take_op (i := 0) (d := 21) (OP := Op.move (Operand.tmp 9)) (T := 3) (v := ?v30) rfl rfl rfl rfl (by kernel_rfl) (by kernel_rfl) (by kernel_rfl) (fun _ _ _ h => h) (by rfl) ?h30 hHeld ?r30
          case h30 => (intro w' hSw; (try dsimp only at hSw); go_simp <;> with_reducible rfl)
          try simp only [Act.put, sI, sZ, sS]
          refine take_op (i := 1) (d := 22) (OP := Op.move (Operand.tmp 2)) (T := 22) (v := ?v31) rfl rfl rfl rfl (by kernel_rfl) (by kernel_rfl) (by kernel_rfl) (fun _ _ _ h => h) (by rfl) ?h31 hHeld ?r31
          case h31 => (intro w' hSw; (try dsimp only at hSw); go_simp <;> with_reducible rfl)
          try simp only [Act.put, sI, sZ, sS]
          refine take_op (i := 2) (d := 23) (OP := Op.call { callee := Callee.builtin Builtin.len, args := #[Operand.tmp 22], argTypes := #[22] }) (T := 3) (v := ?v32) rfl rfl rfl rfl (by kernel_rfl) (by kernel_rfl) (by kernel_rfl) (fun _ _ _ h => h) (by rfl) ?h32 hHeld ?r32
          case h32 => (intro w' hSw; (try dsimp only at hSw); go_simp <;> with_reducible rfl)
          try simp only [Act.put, sI, sZ, sS]
          refine take_op (i := 3) (d := 24) (OP := Op.binOp BinOp.eql 3 (Operand.tmp 21) (Operand.tmp 23) 3) (T := 4) (v := .bool false) rfl rfl rfl rfl (by kernel_rfl) (by kernel_rfl) (by kernel_rfl) (fun _ _ _ h => h) (by rfl) ?h33 hHeld ?r33
          case h33 => (intro w' hSw; (try dsimp only at hSw); go_simp <;> (first | with_reducible rfl | (simp; done) | (simp; omega) | omega))
          try simp only [Act.put, sI, sZ, sS]
          refine take_op (i := 4) (d := 25) (OP := Op.move (Operand.tmp 24)) (T := 4) (v := ?v34) rfl rfl rfl rfl (by kernel_rfl) (by kernel_rfl) (by kernel_rfl) (fun _ _ _ h => h) (by rfl) ?h34 hHeld ?r34
          case h34 => (intro w' hSw; (try dsimp only at hSw); go_simp <;> with_reducible rfl)
          try simp only [Act.put, sI, sZ, sS]
          refine take_op (i := 5) (d := 26) (OP := Op.move (Operand.tmp 8)) (T := 3) (v := ?v35) rfl rfl rfl rfl (by kernel_rfl) (by kernel_rfl) (by kernel_rfl) (fun _ _ _ h => h) (by rfl) ?h35 hHeld ?r35
          case h35 => (intro w' hSw; (try dsimp only at hSw); go_simp <;> with_reducible rfl)
          try simp only [Act.put, sI, sZ, sS]
          refine take_op (i := 6) (d := 27) (OP := Op.move (Operand.tmp 1)) (T := 22) (v := ?v36) rfl rfl rfl rfl (by kernel_rfl) (by kernel_rfl) (by kernel_rfl) (fun _ _ _ h => h) (by rfl) ?h36 hHeld ?r36
          case h36 => (intro w' hSw; (try dsimp only at hSw); go_simp <;> with_reducible rfl)
          try simp only [Act.put, sI, sZ, sS]
          refine take_op (i := 7) (d := 28) (OP := Op.call { callee := Callee.builtin Builtin.len, args := #[Operand.tmp 27], argTypes := #[22] }) (T := 3) (v := ?v37) rfl rfl rfl rfl (by kernel_rfl) (by kernel_rfl) (by kernel_rfl) (fun _ _ _ h => h) (by rfl) ?h37 hHeld ?r37
          case h37 => (intro w' hSw; (try dsimp only at hSw); go_simp <;> with_reducible rfl)
          try simp only [Act.put, sI, sZ, sS]
          refine take_op (i := 8) (d := 29) (OP := Op.binOp BinOp.lss 3 (Operand.tmp 26) (Operand.tmp 28) 3) (T := 4) (v := ?v38) rfl rfl rfl rfl (by kernel_rfl) (by kernel_rfl) (by kernel_rfl) (fun _ _ _ h => h) (by rfl) ?h38 hHeld ?r38
          case h38 => (intro w' hSw; (try dsimp only at hSw); go_simp <;> with_reducible rfl)
          try simp only [Act.put, sI, sZ, sS]
          refine take_op (i := 9) (d := 30) (OP := Op.move (Operand.tmp 29)) (T := 4) (v := ?v39) rfl rfl rfl rfl (by kernel_rfl) (by kernel_rfl) (by kernel_rfl) (fun _ _ _ h => h) (by rfl) ?h39 hHeld ?r39
          case h39 => (intro w' hSw; (try dsimp only at hSw); go_simp <;> with_reducible rfl)
          try simp only [Act.put, sI, sZ, sS]
          refine take_op (i := 10) (d := 31) (OP := Op.move (Operand.tmp 1)) (T := 22) (v := ?v40) rfl rfl rfl rfl (by kernel_rfl) (by kernel_rfl) (by kernel_rfl) (fun _ _ _ h => h) (by rfl) ?h40 hHeld ?r40
          case h40 => (intro w' hSw; (try dsimp only at hSw); go_simp <;> with_reducible rfl)
          try simp only [Act.put, sI, sZ, sS]
          refine take_op (i := 11) (d := 32) (OP := Op.move (Operand.tmp 8)) (T := 3) (v := ?v41) rfl rfl rfl rfl (by kernel_rfl) (by kernel_rfl) (by kernel_rfl) (fun _ _ _ h => h) (by rfl) ?h41 hHeld ?r41
          case h41 => (intro w' hSw; (try dsimp only at hSw); go_simp <;> with_reducible rfl)
          try simp only [Act.put, sI, sZ, sS]
          refine take_op (i := 12) (d := 33) (OP := Op.indexAddr 22 (Operand.tmp 31) (Operand.tmp 32)) (T := 0) (v := ?v42) rfl rfl rfl rfl (by kernel_rfl) (by kernel_rfl) (by kernel_rfl) (fun _ _ _ h => h) (by rfl) ?h42 hHeld ?r42
          case h42 => (intro w' hSw; (try dsimp only at hSw); go_simp <;> with_reducible rfl)
          try simp only [Act.put, sI, sZ, sS]
          refine take_op (i := 13) (d := 34) (OP := Op.fieldAddr 53 (Operand.tmp 33) 0) (T := 0) (v := ?v43) rfl rfl rfl rfl (by kernel_rfl) (by kernel_rfl) (by kernel_rfl) (fun _ _ _ h => h) (by rfl) ?h43 hHeld ?r43
          case h43 => (intro w' hSw; (try dsimp only at hSw); go_simp <;> with_reducible rfl)
          try simp only [Act.put, sI, sZ, sS]
          refine take_op (i := 14) (d := 35) (OP := Op.load 43 (Operand.tmp 34)) (T := 43) (v := ?v44) rfl rfl rfl rfl (by kernel_rfl) (by kernel_rfl) (by kernel_rfl) (fun _ _ _ h => h) (by rfl) ?h44 hHeld ?r44
          case h44 => (intro w' hSw; (try dsimp only at hSw); go_simp <;> with_reducible rfl)
          try simp only [Act.put, sI, sZ, sS]
          refine take_op (i := 15) (d := 36) (OP := Op.move (Operand.tmp 2)) (T := 22) (v := ?v45) rfl rfl rfl rfl (by kernel_rfl) (by kernel_rfl) (by kernel_rfl) (fun _ _ _ h => h) (by rfl) ?h45 hHeld ?r45
          case h45 => (intro w' hSw; (try dsimp only at hSw); go_simp <;> with_reducible rfl)
          try simp only [Act.put, sI, sZ, sS]
          refine take_op (i := 16) (d := 37) (OP := Op.move (Operand.tmp 9)) (T := 3) (v := ?v46) rfl rfl rfl rfl (by kernel_rfl) (by kernel_rfl) (by kernel_rfl) (fun _ _ _ h => h) (by rfl) ?h46 hHeld ?r46
          case h46 => (intro w' hSw; (try dsimp only at hSw); go_simp <;> with_reducible rfl)
          try simp only [Act.put, sI, sZ, sS]
          refine take_op (i := 17) (d := 38) (OP := Op.indexAddr 22 (Operand.tmp 36) (Operand.tmp 37)) (T := 0) (v := ?v47) rfl rfl rfl rfl (by kernel_rfl) (by kernel_rfl) (by kernel_rfl) (fun _ _ _ h => h) (by rfl) ?h47 hHeld ?r47
          case h47 => (intro w' hSw; (try dsimp only at hSw); go_simp <;> with_reducible rfl)
          try simp only [Act.put, sI, sZ, sS]
          refine take_op (i := 18) (d := 39) (OP := Op.fieldAddr 53 (Operand.tmp 38) 0) (T := 0) (v := ?v48) rfl rfl rfl rfl (by kernel_rfl) (by kernel_rfl) (by kernel_rfl) (fun _ _ _ h => h) (by rfl) ?h48 hHeld ?r48
          case h48 => (intro w' hSw; (try dsimp only at hSw); go_simp <;> with_reducible rfl)
          try simp only [Act.put, sI, sZ, sS]
          refine take_op (i := 19) (d := 40) (OP := Op.load 43 (Operand.tmp 39)) (T := 43) (v := ?v49) rfl rfl rfl rfl (by kernel_rfl) (by kernel_rfl) (by kernel_rfl) (fun _ _ _ h => h) (by rfl) ?h49 hHeld ?r49
          case h49 => (intro w' hSw; (try dsimp only at hSw); go_simp <;> with_reducible rfl)
          try simp only [Act.put, sI, sZ, sS]
          refine call_op (i := 20) (d := 41) (OP := Op.call { callee := Callee.value (Operand.func 114), args := #[Operand.tmp 35, Operand.tmp 40], argTypes := #[43, 43] }) (T := 3) (f := 114) (args := #[.agg #[.int .i64 g, .int .i64 r, .string l0, .int .i64 n0, .int .i64 i0], .agg #[.int .i64 g1, .int .i64 r1, .string l1, .int .i64 n1, .int .i64 i1]]) rfl rfl rfl rfl (by kernel_rfl) (by rfl) (by go_simp) ?_
          refine (k63 _).mono ?_
          rintro e z0 ⟨rfl, bz0⟩
          have qz0 : z0.cell? ⟨ba, oa + i * 6, none⟩ = some (.int .i64 g) ∧ z0.cell? ⟨ba, oa + i * 6 + 1, none⟩ = some (.int .i64 r) ∧ z0.cell? ⟨ba, oa + i * 6 + 2, none⟩ = some (.string l0) ∧ z0.cell? ⟨ba, oa + i * 6 + 3, none⟩ = some (.int .i64 n0) ∧ z0.cell? ⟨ba, oa + i * 6 + 4, none⟩ = some (.int .i64 i0) ∧ z0.cell? ⟨ba, oa + i * 6 + 5, none⟩ = some (.string t0) ∧ z0.cell? ⟨bb, ob + k * 6, none⟩ = some (.int .i64 g1) ∧ z0.cell? ⟨bb, ob + k * 6 + 1, none⟩ = some (.int .i64 r1) ∧ z0.cell? ⟨bb, ob + k * 6 + 2, none⟩ = some (.string l1) ∧ z0.cell? ⟨bb, ob + k * 6 + 3, none⟩ = some (.int .i64 n1) ∧ z0.cell? ⟨bb, ob + k * 6 + 4, none⟩ = some (.int .i64 i1) ∧ z0.cell? ⟨bb, ob + k * 6 + 5, none⟩ = some (.string t1) ∧ Below wr.heap.size wr z0 := ⟨cell_stays hHeld.1 bz0, cell_stays hHeld.2.1 bz0, cell_stays hHeld.2.2.1 bz0, cell_stays hHeld.2.2.2.1 bz0, cell_stays hHeld.2.2.2.2.1 bz0, cell_stays hHeld.2.2.2.2.2.1 bz0, cell_stays hHeld.2.2.2.2.2.2.1 bz0, cell_stays hHeld.2.2.2.2.2.2.2.1 bz0, cell_stays hHeld.2.2.2.2.2.2.2.2.1 bz0, cell_stays hHeld.2.2.2.2.2.2.2.2.2.1 bz0, cell_stays hHeld.2.2.2.2.2.2.2.2.2.2.1 bz0, cell_stays hHeld.2.2.2.2.2.2.2.2.2.2.2.1 bz0, nextB hHeld.2.2.2.2.2.2.2.2.2.2.2.2 bz0⟩
          refine ⟨_, rfl, qz0, ?_⟩
          replace hHeld := qz0
          try simp only [Act.put, sI, sZ, sS]
          refine take_op (i := 21) (d := 42) (OP := Op.binOp BinOp.leq 3 (Operand.tmp 41) (Operand.const (Value.int IntKind.i64 0)) 3) (T := 4) (v := ?v50) rfl rfl rfl rfl (by kernel_rfl) (by kernel_rfl) (by kernel_rfl) (fun _ _ _ h => h) (by rfl) ?h50 hHeld ?r50
          case h50 => (intro w' hSw; (try dsimp only at hSw); go_simp <;> with_reducible rfl)
          try simp only [Act.put, sI, sZ, sS]
          refine take_op (i := 22) (d := 43) (OP := Op.pick (Operand.tmp 30) (Operand.tmp 42) (Operand.const (Value.bool false))) (T := 4) (v := ?v51) rfl rfl rfl rfl (by kernel_rfl) (by kernel_rfl) (by kernel_rfl) (fun _ _ _ h => h) (by rfl) ?h51 hHeld ?r51
          case h51 => (intro w' hSw; (try dsimp only at hSw); go_simp <;> with_reducible rfl)
          try simp only [Act.put, sI, sZ, sS]
          refine take_op (i := 23) (d := 44) (OP := Op.pick (Operand.tmp 25) (Operand.const (Value.bool true)) (Operand.tmp 43)) (T := 4) (v := ?v52) rfl rfl rfl rfl (by kernel_rfl) (by kernel_rfl) (by kernel_rfl) (fun _ _ _ h => h) (by rfl) ?h52 hHeld ?r52
          case h52 => (intro w' hSw; (try dsimp only at hSw); go_simp <;> with_reducible rfl)
          try simp only [Act.put, sI, sZ, sS]
          refine wpAnyH_done (by kernel_rfl) ?_ _
          have HE := hide hHeld.2.2.2.2.2.2.2.2.2.2.2.2
          clear hHeld qd hS
          have HF := hide (And.intro (HF0.out.1.trans (HE.out.mono HF0.out.1.size)) (HF0.out.2.below HE.out))
          obtain ⟨s0, s1, s2, s3, s4, s5⟩ := HQ.out
          replace s0 := cell_stays s0 HE.out
          replace s1 := cell_stays s1 HE.out
          replace s2 := cell_stays s2 HE.out
          replace s3 := cell_stays s3 HE.out
          replace s4 := cell_stays s4 HE.out
          replace s5 := cell_stays s5 HE.out
          cases V3
          · skip
            go_wp2_with (first
              | (go_at_call 195; refine (kOy _ HF.out.1).mono ?_; rintro e w2 ⟨u1, rfl, hu1a, hu1b, bw2⟩; replace s0 := cell_stays s0 bw2; replace s1 := cell_stays s1 bw2; replace s2 := cell_stays s2 bw2; replace s3 := cell_stays s3 bw2; replace s4 := cell_stays s4 bw2; replace s5 := cell_stays s5 bw2; have H2 := hide (And.intro (HF.out.1.trans (bw2.mono HF.out.1.size)) (HF.out.2.below bw2)); have fu1 : u1 < 0 := (by simpa using hu1b); have fu1' : decide (u1 < 0) = true := (by simpa using fu1); have fu1'' : ¬ (0 : Int) ≤ u1 := (by omega); have fu13 : decide ((0 : Int) ≤ u1) = false := (by simpa using fu1''); clear hu1a hu1b bw2 kOy; try dsimp only)
              | (refine pushT ((g1, r1, l1, n1, i1), t1) H2 (Nat.le_refl _) (by omega) rfl _ _ rfl rfl rfl ?_; intro a4 c4' w4 H4))
            go_roundw
            case rel => exact ⟨i, k + 1, p ++ [((g1, r1, l1, n1, i1), t1)], a4, c4', by omega, by omega, by rw [List.length_append]; simp; omega, by go_num, by go_num, by rw [List.length_append]; rfl, hide ⟨(by rw [← hP.out.1, HX.out.2]; simp), (hP.out.2.1.right HU.out.1 HX.out.1 HY.out hgt.out), H4.out.1, H4.out.2.1, by rw [List.length_append]; exact H4.out.2.2⟩⟩
            case measure => simp [intOf]; omega
          · skip
            go_wp2_with (first
              | (go_at_call 195; refine (kOy _ HF.out.1).mono ?_; rintro e w2 ⟨u1, rfl, hu1a, hu1b, bw2⟩; replace s0 := cell_stays s0 bw2; replace s1 := cell_stays s1 bw2; replace s2 := cell_stays s2 bw2; replace s3 := cell_stays s3 bw2; replace s4 := cell_stays s4 bw2; replace s5 := cell_stays s5 bw2; have H2 := hide (And.intro (HF.out.1.trans (bw2.mono HF.out.1.size)) (HF.out.2.below bw2)); have fu1 : (0 : Int) ≤ u1 := (by simpa using hu1a); have fu1' : decide ((0 : Int) ≤ u1) = true := (by simpa using fu1); have fu1'' : ¬ u1 < 0 := (by omega); have fu13 : decide (u1 < 0) = false := (by simpa using fu1''); clear hu1a hu1b bw2 kOy; try dsimp only))
            go_roundw
            case rel => exact ⟨i, k + 1, p, ao, c, by omega, by omega, by omega, by go_num, by go_num, rfl, hide ⟨(by rw [← hP.out.1, HX.out.2]; simp), (hP.out.2.1.right HU.out.1 HX.out.1 HY.out hgt.out), hP.out.2.2.1, H2.out.1, H2.out.2⟩⟩
            case measure => simp [intOf]; omega
      · obtain rfl : NB = k := by omega
        have hV1f : V1 = false := by
          rw [hV1]
          have := hP.out.2.1
          rw [HN.out.2.1] at this
          exact this.none hx
        have hStep : togR base b (a.drop i) (b.drop NB) = (if (V1 || !V2) = true then [x] else []) ++ togR base b (a.drop (i + 1)) (b.drop NB) := by
          have hb0 : b.drop NB = [] := by rw [HN.out.2.1, List.drop_length]
          rw [drop_at hx, hb0, hV1, hV2]; exact togR_a _ _ _ _
        rw [hV1f] at hStep
        subst hV1f
        have HX := hide (And.intro hx hStep)
        clear hStep hx hV1 hV2 hxs
        subst hao
        obtain ⟨⟨g, r, l0, n0, i0⟩, t0⟩ := x
        dsimp only at q0 q1 q2 q3 q4 q5 kB kO
        have hS : wr.cell? ⟨ba, oa + i * 6, none⟩ = some (.int .i64 g) ∧ wr.cell? ⟨ba, oa + i * 6 + 1, none⟩ = some (.int .i64 r) ∧ wr.cell? ⟨ba, oa + i * 6 + 2, none⟩ = some (.string l0) ∧ wr.cell? ⟨ba, oa + i * 6 + 3, none⟩ = some (.int .i64 n0) ∧ wr.cell? ⟨ba, oa + i * 6 + 4, none⟩ = some (.int .i64 i0) ∧ wr.cell? ⟨ba, oa + i * 6 + 5, none⟩ = some (.string t0) ∧ Below wr.heap.size wr wr := ⟨q0, q1, q2, q3, q4, q5, Below.refl _ _⟩
        go_upto_region 4 with fail
        have HQ := hide (And.intro q0 (And.intro q1 (And.intro q2 (And.intro q3 (And.intro q4 q5)))))
        clear q0 q1 q2 q3 q4 q5
        have qd : wr.drew.cell? ⟨ba, oa + i * 6, none⟩ = some (.int .i64 g) ∧ wr.drew.cell? ⟨ba, oa + i * 6 + 1, none⟩ = some (.int .i64 r) ∧ wr.drew.cell? ⟨ba, oa + i * 6 + 2, none⟩ = some (.string l0) ∧ wr.drew.cell? ⟨ba, oa + i * 6 + 3, none⟩ = some (.int .i64 n0) ∧ wr.drew.cell? ⟨ba, oa + i * 6 + 4, none⟩ = some (.int .i64 i0) ∧ wr.drew.cell? ⟨ba, oa + i * 6 + 5, none⟩ = some (.string t0) ∧ Below wr.heap.size wr wr.drew := ⟨cell_stays hS.1 (drew_below wr), cell_stays hS.2.1 (drew_below wr), cell_stays hS.2.2.1 (drew_below wr), cell_stays hS.2.2.2.1 (drew_below wr), cell_stays hS.2.2.2.2.1 (drew_below wr), cell_stays hS.2.2.2.2.2.1 (drew_below wr), nextB hS.2.2.2.2.2.2 (drew_below wr)⟩
        refine wp_region_held_drew (S := (fun w' => w'.cell? ⟨ba, oa + i * 6, none⟩ = some (.int .i64 g) ∧ w'.cell? ⟨ba, oa + i * 6 + 1, none⟩ = some (.int .i64 r) ∧ w'.cell? ⟨ba, oa + i * 6 + 2, none⟩ = some (.string l0) ∧ w'.cell? ⟨ba, oa + i * 6 + 3, none⟩ = some (.int .i64 n0) ∧ w'.cell? ⟨ba, oa + i * 6 + 4, none⟩ = some (.int .i64 i0) ∧ w'.cell? ⟨ba, oa + i * 6 + 5, none⟩ = some (.string t0) ∧ Below wr.heap.size wr w')) (by kernel_rfl) qd (fun hHeld => ?_)
        try dsimp only at hHeld
        refine take_op (i := 0) (d := 21) (OP := Op.move (Operand.tmp 9)) (T := 3) (v := ?v1) rfl rfl rfl rfl (by kernel_rfl) (by kernel_rfl) (by kernel_rfl) (fun _ _ _ h => h) (by rfl) ?h1 hHeld ?r1
        case h1 => (intro w' hSw; (try dsimp only at hSw); go_simp <;> with_reducible rfl)
        try simp only [Act.put, sI, sZ, sS]
        refine take_op (i := 1) (d := 22) (OP := Op.move (Operand.tmp 2)) (T := 22) (v := ?v2) rfl rfl rfl rfl (by kernel_rfl) (by kernel_rfl) (by kernel_rfl) (fun _ _ _ h => h) (by rfl) ?h2 hHeld ?r2
        case h2 => (intro w' hSw; (try dsimp only at hSw); go_simp <;> with_reducible rfl)
        try simp only [Act.put, sI, sZ, sS]
        refine take_op (i := 2) (d := 23) (OP := Op.call { callee := Callee.builtin Builtin.len, args := #[Operand.tmp 22], argTypes := #[22] }) (T := 3) (v := ?v3) rfl rfl rfl rfl (by kernel_rfl) (by kernel_rfl) (by kernel_rfl) (fun _ _ _ h => h) (by rfl) ?h3 hHeld ?r3
        case h3 => (intro w' hSw; (try dsimp only at hSw); go_simp <;> with_reducible rfl)
        try simp only [Act.put, sI, sZ, sS]
        refine take_op (i := 3) (d := 24) (OP := Op.binOp BinOp.eql 3 (Operand.tmp 21) (Operand.tmp 23) 3) (T := 4) (v := .bool true) rfl rfl rfl rfl (by kernel_rfl) (by kernel_rfl) (by kernel_rfl) (fun _ _ _ h => h) (by rfl) ?h4 hHeld ?r4
        case h4 => (intro w' hSw; (try dsimp only at hSw); go_simp <;> (first | with_reducible rfl | (simp; done) | (simp; omega) | omega))
        try simp only [Act.put, sI, sZ, sS]
        refine take_op (i := 4) (d := 25) (OP := Op.move (Operand.tmp 24)) (T := 4) (v := ?v5) rfl rfl rfl rfl (by kernel_rfl) (by kernel_rfl) (by kernel_rfl) (fun _ _ _ h => h) (by rfl) ?h5 hHeld ?r5
        case h5 => (intro w' hSw; (try dsimp only at hSw); go_simp <;> with_reducible rfl)
        try simp only [Act.put, sI, sZ, sS]
        refine pass_op (i := 5) (d := 26) rfl rfl (by kernel_rfl) (by kernel_rfl) (by kernel_rfl) (fun _ _ _ h => h) (by rfl) hHeld ?_
        try simp only [Act.put, sI, sZ, sS]
        refine pass_op (i := 6) (d := 27) rfl rfl (by kernel_rfl) (by kernel_rfl) (by kernel_rfl) (fun _ _ _ h => h) (by rfl) hHeld ?_
        try simp only [Act.put, sI, sZ, sS]
        refine pass_op (i := 7) (d := 28) rfl rfl (by kernel_rfl) (by kernel_rfl) (by kernel_rfl) (fun _ _ _ h => h) (by rfl) hHeld ?_
        try simp only [Act.put, sI, sZ, sS]
        refine pass_op (i := 8) (d := 29) rfl rfl (by kernel_rfl) (by kernel_rfl) (by kernel_rfl) (fun _ _ _ h => h) (by rfl) hHeld ?_
        try simp only [Act.put, sI, sZ, sS]
        refine pass_op (i := 9) (d := 30) rfl rfl (by kernel_rfl) (by kernel_rfl) (by kernel_rfl) (fun _ _ _ h => h) (by rfl) hHeld ?_
        try simp only [Act.put, sI, sZ, sS]
        refine pass_op (i := 10) (d := 31) rfl rfl (by kernel_rfl) (by kernel_rfl) (by kernel_rfl) (fun _ _ _ h => h) (by rfl) hHeld ?_
        try simp only [Act.put, sI, sZ, sS]
        refine pass_op (i := 11) (d := 32) rfl rfl (by kernel_rfl) (by kernel_rfl) (by kernel_rfl) (fun _ _ _ h => h) (by rfl) hHeld ?_
        try simp only [Act.put, sI, sZ, sS]
        refine pass_op (i := 12) (d := 33) rfl rfl (by kernel_rfl) (by kernel_rfl) (by kernel_rfl) (fun _ _ _ h => h) (by rfl) hHeld ?_
        try simp only [Act.put, sI, sZ, sS]
        refine pass_op (i := 13) (d := 34) rfl rfl (by kernel_rfl) (by kernel_rfl) (by kernel_rfl) (fun _ _ _ h => h) (by rfl) hHeld ?_
        try simp only [Act.put, sI, sZ, sS]
        refine pass_op (i := 14) (d := 35) rfl rfl (by kernel_rfl) (by kernel_rfl) (by kernel_rfl) (fun _ _ _ h => h) (by rfl) hHeld ?_
        try simp only [Act.put, sI, sZ, sS]
        refine pass_op (i := 15) (d := 36) rfl rfl (by kernel_rfl) (by kernel_rfl) (by kernel_rfl) (fun _ _ _ h => h) (by rfl) hHeld ?_
        try simp only [Act.put, sI, sZ, sS]
        refine pass_op (i := 16) (d := 37) rfl rfl (by kernel_rfl) (by kernel_rfl) (by kernel_rfl) (fun _ _ _ h => h) (by rfl) hHeld ?_
        try simp only [Act.put, sI, sZ, sS]
        refine pass_op (i := 17) (d := 38) rfl rfl (by kernel_rfl) (by kernel_rfl) (by kernel_rfl) (fun _ _ _ h => h) (by rfl) hHeld ?_
        try simp only [Act.put, sI, sZ, sS]
        refine pass_op (i := 18) (d := 39) rfl rfl (by kernel_rfl) (by kernel_rfl) (by kernel_rfl) (fun _ _ _ h => h) (by rfl) hHeld ?_
        try simp only [Act.put, sI, sZ, sS]
        refine pass_op (i := 19) (d := 40) rfl rfl (by kernel_rfl) (by kernel_rfl) (by kernel_rfl) (fun _ _ _ h => h) (by rfl) hHeld ?_
        try simp only [Act.put, sI, sZ, sS]
        refine pass_op (i := 20) (d := 41) rfl rfl (by kernel_rfl) (by kernel_rfl) (by kernel_rfl) (fun _ _ _ h => h) (by rfl) hHeld ?_
        try simp only [Act.put, sI, sZ, sS]
        refine pass_op (i := 21) (d := 42) rfl rfl (by kernel_rfl) (by kernel_rfl) (by kernel_rfl) (fun _ _ _ h => h) (by rfl) hHeld ?_
        try simp only [Act.put, sI, sZ, sS]
        refine pass_op (i := 22) (d := 43) rfl rfl (by kernel_rfl) (by kernel_rfl) (by kernel_rfl) (fun _ _ _ h => h) (by rfl) hHeld ?_
        try simp only [Act.put, sI, sZ, sS]
        refine take_op (i := 23) (d := 44) (OP := Op.pick (Operand.tmp 25) (Operand.const (Value.bool true)) (Operand.tmp 43)) (T := 4) (v := ?v6) rfl rfl rfl rfl (by kernel_rfl) (by kernel_rfl) (by kernel_rfl) (fun _ _ _ h => h) (by rfl) ?h6 hHeld ?r6
        case h6 => (intro w' hSw; (try dsimp only at hSw); go_simp <;> with_reducible rfl)
        try simp only [Act.put, sI, sZ, sS]
        refine wpAnyH_done (by kernel_rfl) ?_ _
        have HE := hide hHeld.2.2.2.2.2.2
        clear hHeld qd hS
        have HF := hide (And.intro (HF0.out.1.trans (HE.out.mono HF0.out.1.size)) (HF0.out.2.below HE.out))
        obtain ⟨q0, q1, q2, q3, q4, q5⟩ := HQ.out
        replace q0 := cell_stays q0 HE.out
        replace q1 := cell_stays q1 HE.out
        replace q2 := cell_stays q2 HE.out
        replace q3 := cell_stays q3 HE.out
        replace q4 := cell_stays q4 HE.out
        replace q5 := cell_stays q5 HE.out
        cases V2
        · skip
          go_wp2_with (first
            | (go_at_call 195; refine (kB _ HF.out.1).mono ?_; rintro e w2 ⟨u1, rfl, hu1a, hu1b, bw2⟩; replace q0 := cell_stays q0 bw2; replace q1 := cell_stays q1 bw2; replace q2 := cell_stays q2 bw2; replace q3 := cell_stays q3 bw2; replace q4 := cell_stays q4 bw2; replace q5 := cell_stays q5 bw2; have H2 := hide (And.intro (HF.out.1.trans (bw2.mono HF.out.1.size)) (HF.out.2.below bw2)); have fu1 : u1 < 0 := (by simpa using hu1b); have fu1' : decide (u1 < 0) = true := (by simpa using fu1); have fu1'' : ¬ (0 : Int) ≤ u1 := (by omega); have fu13 : decide ((0 : Int) ≤ u1) = false := (by simpa using fu1''); clear hu1a hu1b bw2 kB; try dsimp only)
            | (go_at_call 195; refine (kO _ H2.out.1).mono ?_; rintro e w3 ⟨u2, rfl, hu2a, hu2b, bw3⟩; replace q0 := cell_stays q0 bw3; replace q1 := cell_stays q1 bw3; replace q2 := cell_stays q2 bw3; replace q3 := cell_stays q3 bw3; replace q4 := cell_stays q4 bw3; replace q5 := cell_stays q5 bw3; have H3 := hide (And.intro (H2.out.1.trans (bw3.mono H2.out.1.size)) (H2.out.2.below bw3)); have fu2 : u2 < 0 := (by simpa using hu2b); have fu2' : decide (u2 < 0) = true := (by simpa using fu2); have fu2'' : ¬ (0 : Int) ≤ u2 := (by omega); have fu23 : decide ((0 : Int) ≤ u2) = false := (by simpa using fu2''); clear hu2a hu2b bw3 kO; try dsimp only)
            | (refine pushT ((g, r, l0, n0, i0), t0) H3 (Nat.le_refl _) (by omega) rfl _ _ rfl rfl rfl ?_; intro a4 c4' w4 H4))
          go_roundw
          case rel => exact ⟨i + 1, NB, p ++ [((g, r, l0, n0, i0), t0)], a4, c4', by omega, by omega, by rw [List.length_append]; simp; omega, by go_num, by go_num, by rw [List.length_append]; rfl, hide ⟨(by rw [← hP.out.1, HX.out.2]; simp), hP.out.2.1.left, H4.out.1, H4.out.2.1, by rw [List.length_append]; exact H4.out.2.2⟩⟩
          case measure => simp [intOf]; omega
        · skip
          go_wp2_with (first
            | (go_at_call 195; refine (kB _ HF.out.1).mono ?_; rintro e w2 ⟨u1, rfl, hu1a, hu1b, bw2⟩; replace q0 := cell_stays q0 bw2; replace q1 := cell_stays q1 bw2; replace q2 := cell_stays q2 bw2; replace q3 := cell_stays q3 bw2; replace q4 := cell_stays q4 bw2; replace q5 := cell_stays q5 bw2; have H2 := hide (And.intro (HF.out.1.trans (bw2.mono HF.out.1.size)) (HF.out.2.below bw2)); have fu1 : u1 < 0 := (by simpa using hu1b); have fu1' : decide (u1 < 0) = true := (by simpa using fu1); have fu1'' : ¬ (0 : Int) ≤ u1 := (by omega); have fu13 : decide ((0 : Int) ≤ u1) = false := (by simpa using fu1''); clear hu1a hu1b bw2 kB; try dsimp only)
            | (go_at_call 195; refine (kO _ H2.out.1).mono ?_; rintro e w3 ⟨u2, rfl, hu2a, hu2b, bw3⟩; replace q0 := cell_stays q0 bw3; replace q1 := cell_stays q1 bw3; replace q2 := cell_stays q2 bw3; replace q3 := cell_stays q3 bw3; replace q4 := cell_stays q4 bw3; replace q5 := cell_stays q5 bw3; have H3 := hide (And.intro (H2.out.1.trans (bw3.mono H2.out.1.size)) (H2.out.2.below bw3)); have fu2 : (0 : Int) ≤ u2 := (by simpa using hu2a); have fu2' : decide ((0 : Int) ≤ u2) = true := (by simpa using fu2); have fu2'' : ¬ u2 < 0 := (by omega); have fu23 : decide (u2 < 0) = false := (by simpa using fu2''); clear hu2a hu2b bw3 kO; try dsimp only))
          go_roundw
          case rel => exact ⟨i + 1, NB, p, ao, c, by omega, by omega, by omega, by go_num, by go_num, rfl, hide ⟨(by rw [← hP.out.1, HX.out.2]; simp), hP.out.2.1.left, hP.out.2.2.1, H3.out.1, H3.out.2⟩⟩
          case measure => simp [intOf]; omega
    · obtain rfl : NA = i := by omega
      have dA : decide (NA < NA) = false := by simp
      by_cases hB : k < NB
      · have dB : decide (k < NB) = true := by simpa using hB
        have zB : (k : Int) < (NB : Int) := by omega
        have nB : ¬ k = NB := by omega
        have eB : decide ((k : Int) = (NB : Int)) = false := by simpa using (by omega : ¬ (k : Int) = (NB : Int))
        have eB' : decide (k = NB) = false := by simpa using nB
        obtain ⟨y, hy⟩ : ∃ y, b[k]? = some y := ⟨_, List.getElem?_eq_getElem (by rw [← HN.out.2.1]; exact hB)⟩
        obtain ⟨bb, ob, hbo, s0, s1, s2, s3, s4, s5⟩ := (HN.out.2.2.2.1.below hP.out.2.2.2.1).cells hy
        obtain ⟨V3, hV3⟩ : ∃ V, V = standsB y.1 base := ⟨_, rfl⟩
        have kOy : ∀ W, Below w.heap.size w W → Calls Tryz.prog 195 #[.slice oo NO co, svT y.1] W (fun e w' => ∃ n : Int, e = .returned (.int .i64 n) ∧ (V3 = true → 0 ≤ n) ∧ (V3 = false → n < 0) ∧ Below W.heap.size W w') := fun W hW => by rw [hV3]; exact kO0 y.1 W hW
        have hStep : togR base b (a.drop NA) (b.drop k) = (if V3 = true then [] else [y]) ++ togR base b (a.drop NA) (b.drop (k + 1)) := by
          have ha0 : a.drop NA = [] := by rw [HN.out.1, List.drop_length]
          rw [drop_at hy, ha0, hV3]; exact togR_b _ _ _ _
        have hPE : Hid (Past a b NA (k + 1)) := hide (by rw [HN.out.1]; exact Past.end)
        subst hbo
        have HX := hide (And.intro True.intro hStep)
        clear hStep hy hV3
        obtain ⟨⟨g1, r1, l1, n1, i1⟩, t1⟩ := y
        dsimp only at s0 s1 s2 s3 s4 s5 kOy
        have hS : wr.cell? ⟨bb, ob + k * 6, none⟩ = some (.int .i64 g1) ∧ wr.cell? ⟨bb, ob + k * 6 + 1, none⟩ = some (.int .i64 r1) ∧ wr.cell? ⟨bb, ob + k * 6 + 2, none⟩ = some (.string l1) ∧ wr.cell? ⟨bb, ob + k * 6 + 3, none⟩ = some (.int .i64 n1) ∧ wr.cell? ⟨bb, ob + k * 6 + 4, none⟩ = some (.int .i64 i1) ∧ wr.cell? ⟨bb, ob + k * 6 + 5, none⟩ = some (.string t1) ∧ Below wr.heap.size wr wr := ⟨s0, s1, s2, s3, s4, s5, Below.refl _ _⟩
        go_upto_region 4 with fail
        have HQ := hide (And.intro s0 (And.intro s1 (And.intro s2 (And.intro s3 (And.intro s4 s5)))))
        clear s0 s1 s2 s3 s4 s5
        have qd : wr.drew.cell? ⟨bb, ob + k * 6, none⟩ = some (.int .i64 g1) ∧ wr.drew.cell? ⟨bb, ob + k * 6 + 1, none⟩ = some (.int .i64 r1) ∧ wr.drew.cell? ⟨bb, ob + k * 6 + 2, none⟩ = some (.string l1) ∧ wr.drew.cell? ⟨bb, ob + k * 6 + 3, none⟩ = some (.int .i64 n1) ∧ wr.drew.cell? ⟨bb, ob + k * 6 + 4, none⟩ = some (.int .i64 i1) ∧ wr.drew.cell? ⟨bb, ob + k * 6 + 5, none⟩ = some (.string t1) ∧ Below wr.heap.size wr wr.drew := ⟨cell_stays hS.1 (drew_below wr), cell_stays hS.2.1 (drew_below wr), cell_stays hS.2.2.1 (drew_below wr), cell_stays hS.2.2.2.1 (drew_below wr), cell_stays hS.2.2.2.2.1 (drew_below wr), cell_stays hS.2.2.2.2.2.1 (drew_below wr), nextB hS.2.2.2.2.2.2 (drew_below wr)⟩
        refine wp_region_held_drew (S := (fun w' => w'.cell? ⟨bb, ob + k * 6, none⟩ = some (.int .i64 g1) ∧ w'.cell? ⟨bb, ob + k * 6 + 1, none⟩ = some (.int .i64 r1) ∧ w'.cell? ⟨bb, ob + k * 6 + 2, none⟩ = some (.string l1) ∧ w'.cell? ⟨bb, ob + k * 6 + 3, none⟩ = some (.int .i64 n1) ∧ w'.cell? ⟨bb, ob + k * 6 + 4, none⟩ = some (.int .i64 i1) ∧ w'.cell? ⟨bb, ob + k * 6 + 5, none⟩ = some (.string t1) ∧ Below wr.heap.size wr w')) (by kernel_rfl) qd (fun hHeld => ?_)
        try dsimp only at hHeld
        refine take_op (i := 0) (d := 21) (OP := Op.move (Operand.tmp 9)) (T := 3) (v := ?v53) rfl rfl rfl rfl (by kernel_rfl) (by kernel_rfl) (by kernel_rfl) (fun _ _ _ h => h) (by rfl) ?h53 hHeld ?r53
        case h53 => (intro w' hSw; (try dsimp only at hSw); go_simp <;> with_reducible rfl)
        try simp only [Act.put, sI, sZ, sS]
        refine take_op (i := 1) (d := 22) (OP := Op.move (Operand.tmp 2)) (T := 22) (v := ?v54) rfl rfl rfl rfl (by kernel_rfl) (by kernel_rfl) (by kernel_rfl) (fun _ _ _ h => h) (by rfl) ?h54 hHeld ?r54
        case h54 => (intro w' hSw; (try dsimp only at hSw); go_simp <;> with_reducible rfl)
        try simp only [Act.put, sI, sZ, sS]
        refine take_op (i := 2) (d := 23) (OP := Op.call { callee := Callee.builtin Builtin.len, args := #[Operand.tmp 22], argTypes := #[22] }) (T := 3) (v := ?v55) rfl rfl rfl rfl (by kernel_rfl) (by kernel_rfl) (by kernel_rfl) (fun _ _ _ h => h) (by rfl) ?h55 hHeld ?r55
        case h55 => (intro w' hSw; (try dsimp only at hSw); go_simp <;> with_reducible rfl)
        try simp only [Act.put, sI, sZ, sS]
        refine take_op (i := 3) (d := 24) (OP := Op.binOp BinOp.eql 3 (Operand.tmp 21) (Operand.tmp 23) 3) (T := 4) (v := .bool false) rfl rfl rfl rfl (by kernel_rfl) (by kernel_rfl) (by kernel_rfl) (fun _ _ _ h => h) (by rfl) ?h56 hHeld ?r56
        case h56 => (intro w' hSw; (try dsimp only at hSw); go_simp <;> (first | with_reducible rfl | (simp; done) | (simp; omega) | omega))
        try simp only [Act.put, sI, sZ, sS]
        refine take_op (i := 4) (d := 25) (OP := Op.move (Operand.tmp 24)) (T := 4) (v := ?v57) rfl rfl rfl rfl (by kernel_rfl) (by kernel_rfl) (by kernel_rfl) (fun _ _ _ h => h) (by rfl) ?h57 hHeld ?r57
        case h57 => (intro w' hSw; (try dsimp only at hSw); go_simp <;> with_reducible rfl)
        try simp only [Act.put, sI, sZ, sS]
        refine take_op (i := 5) (d := 26) (OP := Op.move (Operand.tmp 8)) (T := 3) (v := ?v58) rfl rfl rfl rfl (by kernel_rfl) (by kernel_rfl) (by kernel_rfl) (fun _ _ _ h => h) (by rfl) ?h58 hHeld ?r58
        case h58 => (intro w' hSw; (try dsimp only at hSw); go_simp <;> with_reducible rfl)
        try simp only [Act.put, sI, sZ, sS]
        refine take_op (i := 6) (d := 27) (OP := Op.move (Operand.tmp 1)) (T := 22) (v := ?v59) rfl rfl rfl rfl (by kernel_rfl) (by kernel_rfl) (by kernel_rfl) (fun _ _ _ h => h) (by rfl) ?h59 hHeld ?r59
        case h59 => (intro w' hSw; (try dsimp only at hSw); go_simp <;> with_reducible rfl)
        try simp only [Act.put, sI, sZ, sS]
        refine take_op (i := 7) (d := 28) (OP := Op.call { callee := Callee.builtin Builtin.len, args := #[Operand.tmp 27], argTypes := #[22] }) (T := 3) (v := ?v60) rfl rfl rfl rfl (by kernel_rfl) (by kernel_rfl) (by kernel_rfl) (fun _ _ _ h => h) (by rfl) ?h60 hHeld ?r60
        case h60 => (intro w' hSw; (try dsimp only at hSw); go_simp <;> with_reducible rfl)
        try simp only [Act.put, sI, sZ, sS]
        refine take_op (i := 8) (d := 29) (OP := Op.binOp BinOp.lss 3 (Operand.tmp 26) (Operand.tmp 28) 3) (T := 4) (v := ?v61) rfl rfl rfl rfl (by kernel_rfl) (by kernel_rfl) (by kernel_rfl) (fun _ _ _ h => h) (by rfl) ?h61 hHeld ?r61
        case h61 => (intro w' hSw; (try dsimp only at hSw); go_simp <;> with_reducible rfl)
        try simp only [Act.put, sI, sZ, sS]
        refine take_op (i := 9) (d := 30) (OP := Op.move (Operand.tmp 29)) (T := 4) (v := ?v62) rfl rfl rfl rfl (by kernel_rfl) (by kernel_rfl) (by kernel_rfl) (fun _ _ _ h => h) (by rfl) ?h62 hHeld ?r62
        case h62 => (intro w' hSw; (try dsimp only at hSw); go_simp <;> with_reducible rfl)
        try simp only [Act.put, sI, sZ, sS]
        refine pass_op (i := 10) (d := 31) rfl rfl (by kernel_rfl) (by kernel_rfl) (by kernel_rfl) (fun _ _ _ h => h) (by rfl) hHeld ?_
        try simp only [Act.put, sI, sZ, sS]
        refine pass_op (i := 11) (d := 32) rfl rfl (by kernel_rfl) (by kernel_rfl) (by kernel_rfl) (fun _ _ _ h => h) (by rfl) hHeld ?_
        try simp only [Act.put, sI, sZ, sS]
        refine pass_op (i := 12) (d := 33) rfl rfl (by kernel_rfl) (by kernel_rfl) (by kernel_rfl) (fun _ _ _ h => h) (by rfl) hHeld ?_
        try simp only [Act.put, sI, sZ, sS]
        refine pass_op (i := 13) (d := 34) rfl rfl (by kernel_rfl) (by kernel_rfl) (by kernel_rfl) (fun _ _ _ h => h) (by rfl) hHeld ?_
        try simp only [Act.put, sI, sZ, sS]
        refine pass_op (i := 14) (d := 35) rfl rfl (by kernel_rfl) (by kernel_rfl) (by kernel_rfl) (fun _ _ _ h => h) (by rfl) hHeld ?_
        try simp only [Act.put, sI, sZ, sS]
        refine pass_op (i := 15) (d := 36) rfl rfl (by kernel_rfl) (by kernel_rfl) (by kernel_rfl) (fun _ _ _ h => h) (by rfl) hHeld ?_
        try simp only [Act.put, sI, sZ, sS]
        refine pass_op (i := 16) (d := 37) rfl rfl (by kernel_rfl) (by kernel_rfl) (by kernel_rfl) (fun _ _ _ h => h) (by rfl) hHeld ?_
        try simp only [Act.put, sI, sZ, sS]
        refine pass_op (i := 17) (d := 38) rfl rfl (by kernel_rfl) (by kernel_rfl) (by kernel_rfl) (fun _ _ _ h => h) (by rfl) hHeld ?_
        try simp only [Act.put, sI, sZ, sS]
        refine pass_op (i := 18) (d := 39) rfl rfl (by kernel_rfl) (by kernel_rfl) (by kernel_rfl) (fun _ _ _ h => h) (by rfl) hHeld ?_
        try simp only [Act.put, sI, sZ, sS]
        refine pass_op (i := 19) (d := 40) rfl rfl (by kernel_rfl) (by kernel_rfl) (by kernel_rfl) (fun _ _ _ h => h) (by rfl) hHeld ?_
        try simp only [Act.put, sI, sZ, sS]
        refine pass_op (i := 20) (d := 41) rfl rfl (by kernel_rfl) (by kernel_rfl) (by kernel_rfl) (fun _ _ _ h => h) (by rfl) hHeld ?_
        try simp only [Act.put, sI, sZ, sS]
        refine pass_op (i := 21) (d := 42) rfl rfl (by kernel_rfl) (by kernel_rfl) (by kernel_rfl) (fun _ _ _ h => h) (by rfl) hHeld ?_
        try simp only [Act.put, sI, sZ, sS]
        refine take_op (i := 22) (d := 43) (OP := Op.pick (Operand.tmp 30) (Operand.tmp 42) (Operand.const (Value.bool false))) (T := 4) (v := ?v63) rfl rfl rfl rfl (by kernel_rfl) (by kernel_rfl) (by kernel_rfl) (fun _ _ _ h => h) (by rfl) ?h63 hHeld ?r63
        case h63 => (intro w' hSw; (try dsimp only at hSw); go_simp <;> with_reducible rfl)
        try simp only [Act.put, sI, sZ, sS]
        refine take_op (i := 23) (d := 44) (OP := Op.pick (Operand.tmp 25) (Operand.const (Value.bool true)) (Operand.tmp 43)) (T := 4) (v := ?v64) rfl rfl rfl rfl (by kernel_rfl) (by kernel_rfl) (by kernel_rfl) (fun _ _ _ h => h) (by rfl) ?h64 hHeld ?r64
        case h64 => (intro w' hSw; (try dsimp only at hSw); go_simp <;> with_reducible rfl)
        try simp only [Act.put, sI, sZ, sS]
        refine wpAnyH_done (by kernel_rfl) ?_ _
        have HE := hide hHeld.2.2.2.2.2.2
        clear hHeld qd hS
        have HF := hide (And.intro (HF0.out.1.trans (HE.out.mono HF0.out.1.size)) (HF0.out.2.below HE.out))
        obtain ⟨s0, s1, s2, s3, s4, s5⟩ := HQ.out
        replace s0 := cell_stays s0 HE.out
        replace s1 := cell_stays s1 HE.out
        replace s2 := cell_stays s2 HE.out
        replace s3 := cell_stays s3 HE.out
        replace s4 := cell_stays s4 HE.out
        replace s5 := cell_stays s5 HE.out
        cases V3
        · skip
          go_wp2_with (first
            | (go_at_call 195; refine (kOy _ HF.out.1).mono ?_; rintro e w2 ⟨u1, rfl, hu1a, hu1b, bw2⟩; replace s0 := cell_stays s0 bw2; replace s1 := cell_stays s1 bw2; replace s2 := cell_stays s2 bw2; replace s3 := cell_stays s3 bw2; replace s4 := cell_stays s4 bw2; replace s5 := cell_stays s5 bw2; have H2 := hide (And.intro (HF.out.1.trans (bw2.mono HF.out.1.size)) (HF.out.2.below bw2)); have fu1 : u1 < 0 := (by simpa using hu1b); have fu1' : decide (u1 < 0) = true := (by simpa using fu1); have fu1'' : ¬ (0 : Int) ≤ u1 := (by omega); have fu13 : decide ((0 : Int) ≤ u1) = false := (by simpa using fu1''); clear hu1a hu1b bw2 kOy; try dsimp only)
            | (refine pushT ((g1, r1, l1, n1, i1), t1) H2 (Nat.le_refl _) (by omega) rfl _ _ rfl rfl rfl ?_; intro a4 c4' w4 H4))
          go_roundw
          case rel => exact ⟨NA, k + 1, p ++ [((g1, r1, l1, n1, i1), t1)], a4, c4', by omega, by omega, by rw [List.length_append]; simp; omega, by go_num, by go_num, by rw [List.length_append]; rfl, hide ⟨(by rw [← hP.out.1, HX.out.2]; simp), hPE.out, H4.out.1, H4.out.2.1, by rw [List.length_append]; exact H4.out.2.2⟩⟩
          case measure => simp [intOf]; omega
        · skip
          go_wp2_with (first
            | (go_at_call 195; refine (kOy _ HF.out.1).mono ?_; rintro e w2 ⟨u1, rfl, hu1a, hu1b, bw2⟩; replace s0 := cell_stays s0 bw2; replace s1 := cell_stays s1 bw2; replace s2 := cell_stays s2 bw2; replace s3 := cell_stays s3 bw2; replace s4 := cell_stays s4 bw2; replace s5 := cell_stays s5 bw2; have H2 := hide (And.intro (HF.out.1.trans (bw2.mono HF.out.1.size)) (HF.out.2.below bw2)); have fu1 : (0 : Int) ≤ u1 := (by simpa using hu1a); have fu1' : decide ((0 : Int) ≤ u1) = true := (by simpa using fu1); have fu1'' : ¬ u1 < 0 := (by omega); have fu13 : decide (u1 < 0) = false := (by simpa using fu1''); clear hu1a hu1b bw2 kOy; try dsimp only))
          go_roundw
          case rel => exact ⟨NA, k + 1, p, ao, c, by omega, by omega, by omega, by go_num, by go_num, rfl, hide ⟨(by rw [← hP.out.1, HX.out.2]; simp), hPE.out, hP.out.2.2.1, H2.out.1, H2.out.2⟩⟩
          case measure => simp [intOf]; omega
      · obtain rfl : NB = k := by omega
        have dB : decide (NB < NB) = false := by simp
        have hEnd : p = togL base a b := by
          have := hP.out.1
          rw [HN.out.1, HN.out.2.1, List.drop_length, List.drop_length, togR_nil, List.append_nil] at this
          exact this
        have HR := hide hEnd
        clear hEnd
        go_wp2
        go_ret
        refine ⟨ao, c, by rw [← HR.out]; rfl, ?_, HF0.out.1⟩
        rw [← HR.out]
        exact HF0.out.2
end Go.Proofs.YtkkpdgfllnbigaaGreat
