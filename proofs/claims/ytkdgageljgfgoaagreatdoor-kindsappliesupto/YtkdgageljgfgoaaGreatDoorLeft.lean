/-
  The laws' much 21, spoil 64.
  The laws' copied 22.
  The laws' left 28.
-/
import Derived.Test.YtkdgageljgfgoaaGreatDoorKnownB
import Derived.Test.YtkdgageljgfgoaaGreatDoorDocS9
namespace Go.Proofs.YtkdgageljgfgoaaGreatDoor
open Go.RowKit Go.Shelf
set_option linter.unusedSimpArgs false
attribute [local go_sem] Oper.semAt_some

/-- Values in a row: their lists' lengths. -/
def LensAt (w : World) (b : Nat) (ns : List Nat) : Prop := ∀ (i n : Nat), ns[i]? = some n → ∃ a c, w.cell? ⟨b, i * 3 + 2, none⟩ = some (.slice a n c)
theorem sum_next {ns : List Nat} {i n : Nat} (h : ns[i]? = some n) : (ns.take (i + 1)).sum = (ns.take i).sum + n := by
  obtain ⟨hi, e⟩ := List.getElem?_eq_some_iff.1 h
  rw [List.take_add_one, List.sum_append, h]
  simp
set_option maxHeartbeats 2000000 in
set_option maxRecDepth 100000 in
theorem much_any {w : World} {b c : Nat} {ns : List Nat} (h : LensAt w b ns) (hn : ∀ n ∈ ns, n ≤ 4398046510976) (hl : ns.length ≤ 10) : Calls Tryz.prog 21 #[.slice (some ⟨b, 0, none⟩) ns.length c] w fun e w' => e = .returned (.bool (decide (400 < ns.sum))) ∧ w' = w := by
  obtain ⟨N, hN⟩ : ∃ N, N = ns.length := ⟨_, rfl⟩
  obtain ⟨R, hR⟩ : ∃ R, R = ns.sum := ⟨_, rfl⟩
  rw [← hN] at hl ⊢
  rw [← hR]
  have H := hide (And.intro hN (And.intro hR (And.intro h hn)))
  clear hN hR h hn
  go_enter Tryz.func21, Tryz.ntmps21
  go_wp2
  go_loopw [3, 4] (fun nv iv wr => ∃ (i S : Nat), i ≤ N ∧ S ≤ i * 4398046510976 ∧ iv = .int .i64 i ∧ nv = .int .i64 S ∧ Hid (S = (ns.take i).sum) ∧ wr = w) (fun _ iv _ => N - (intOf iv).toNat)
  case atStart => exact ⟨0, 0, Nat.zero_le _, by omega, rfl, rfl, hide rfl, rfl⟩
  case round =>
    obtain ⟨i, S, hi, hS, rfl, rfl, hE, hwr⟩ := hrel
    obtain rfl : w = wr := hwr.symm
    clear hwr
    have hS2 : S ≤ 43980465109760 := by omega
    by_cases hlt : i < N
    · have d1 : decide (i < N) = true := by simpa using hlt
      have d2 : (i : Int) < (N : Int) := by omega
      obtain ⟨n, hn⟩ : ∃ n, ns[i]? = some n := ⟨_, List.getElem?_eq_getElem (by rw [← H.out.1]; exact hlt)⟩
      obtain ⟨a, c', hc⟩ := H.out.2.2.1 i n hn
      have hnb := H.out.2.2.2 n (List.mem_of_getElem? hn)
      have HN := hide hn
      clear hn
      go_wp2
      go_roundw
      case rel => exact ⟨i + 1, S + n, by omega, by omega, by go_num, by go_num, hide (by rw [hE.out, sum_next HN.out]), by first | rfl | trivial⟩
      case measure => simp [intOf]; omega
    · obtain rfl : N = i := by omega
      have d1 : decide (N < N) = false := by simp
      have e : S = R := by rw [hE.out, H.out.2.1, H.out.1, List.take_length]
      subst e
      clear hE
      go_wp2
      go_ret
      refine ⟨?_, by first | rfl | trivial⟩
      first
        | rfl
        | (congr 2; by_cases h4 : 400 < S <;> simp [h4] <;> omega)

/-- A row of elements that can be written. -/
def RowE (w : World) (b S : Nat) : Prop := ∃ cur : Array Value, w.heap[b]? = some (.cells cur 77 (0, 0)) ∧ cur.size = S
theorem RowE.there {w : World} {b S i : Nat} (h : RowE w b S) (hi : (i + 1) * 6 ≤ S) : w.there b (i * 6) 6 := fun r hr => by
  obtain ⟨cur, h1, h2⟩ := h
  have : i * 6 + r < cur.size := by omega
  exact ⟨by rw [cell_of_row _ _ _ _ 77 (0, 0) h1, Array.getElem?_eq_getElem this]; rfl, frozen_of_row _ _ _ _ 77 h1⟩
theorem RowE.set {w : World} {b S o : Nat} (h : RowE w b S) (vs : List Value) : RowE (w.setCells b o vs) b S := by
  obtain ⟨cur, h1, h2⟩ := h
  obtain ⟨cur', h1', h2', _⟩ := setCells_row vs o w cur h1
  exact ⟨cur', h1', by omega⟩
theorem RowE.below {w w' : World} {b S : Nat} (h : RowE w b S) (hb : Below w.heap.size w w') : RowE w' b S := by
  obtain ⟨cur, h1, h2⟩ := h
  exact ⟨cur, (hb.block _ (Array.getElem?_eq_some_iff.1 h1).1).trans h1, h2⟩
abbrev overE : El := ((0, 0, ⟨#[]⟩, 0, 0), ⟨#[111, 118, 101, 114]⟩)
set_option maxHeartbeats 2000000 in
set_option maxRecDepth 100000 in
theorem spoil_any {w : World} (k n : Int) {b N c S : Nat} (h : RowE w b S) (hS : N * 6 ≤ S) (hl : N ≤ 1000000) : Calls Tryz.prog 64 #[vv k n (some ⟨b, 0, none⟩) N c] w fun e w' => (∃ v, e = .returned v) ∧ Only (fun j => j = b) w w' := by
  obtain ⟨w1, hw1⟩ : ∃ w1, w1 = w.alloc (.cells #[.int .i64 k, .int .i64 n, .slice (some ⟨b, 0, none⟩) N c] 46) := ⟨_, rfl⟩
  have b1 : Below w.heap.size w w1 := by rw [hw1]; exact (Below.refl _ w).alloc (Nat.le_refl _) _
  have m0 := heap_alloc_new w (.cells #[.int .i64 k, .int .i64 n, .slice (some ⟨b, 0, none⟩) N c] 46)
  rw [← hw1] at m0
  obtain ⟨X, hX⟩ : ∃ X, X = w.heap.size := ⟨_, rfl⟩
  rw [← hX] at m0
  have x2 : w1.cell? ⟨X, 2, none⟩ = some (.slice (some ⟨b, 0, none⟩) N c) := (cell_of_row _ _ 2 _ 46 (0, 0) m0).trans rfl
  have hXb : X ≠ b := fun e => by
    obtain ⟨cur, h1, _⟩ := h
    have := (Array.getElem?_eq_some_iff.1 h1).1
    omega
  have h1 := h.below b1
  have H := hide (And.intro hw1 (And.intro hX (And.intro b1 (And.intro x2 (And.intro hXb h1)))))
  clear hw1 hX b1 x2 hXb h m0 h1
  go_enter Tryz.func64, Tryz.ntmps64
  go_upto_region 1 with fail
  rw [← H.out.1, ← H.out.2.1]
  go_wp2
  go_loopw [2] (fun iv wr => ∃ i : Nat, i ≤ N ∧ iv = .int .i64 i ∧ Hid (Only (fun j => j = b) w1 wr ∧ RowE wr b S)) (fun iv _ => N - (intOf iv).toNat)
  case atStart => exact ⟨0, Nat.zero_le _, rfl, hide ⟨Only.refl _ _, H.out.2.2.2.2.2⟩⟩
  case round =>
    obtain ⟨i, hi, rfl, hP⟩ := hrel
    have x2 := hP.out.1.cell H.out.2.2.2.1 H.out.2.2.2.2.1
    by_cases hlt : i < N
    · have d1 : decide (i < N) = true := by simpa using hlt
      have d2 : (i : Int) < (N : Int) := by omega
      have ht := hide (hP.out.2.there (i := i) (by omega))
      go_wp2_with (refine wpList_storeE rfl rfl _ _ rfl b (i * 6) overE rfl rfl ht.out ?_; intro w3 hw3; have HW3 := hide hw3; clear hw3)
      go_roundw
      case rel => exact ⟨i + 1, by omega, by go_num, hide (by rw [HW3.out]; exact ⟨hP.out.1.next (setCells_only b _ _ _), hP.out.2.set _⟩)⟩
      case measure => simp [intOf]; omega
    · obtain rfl : N = i := by omega
      have d1 : decide (N < N) = false := by simp
      go_wp2
      refine ⟨rfl, .tuple #[], ?_, ⟨_, rfl⟩, (below_only H.out.2.2.1).next hP.out.1⟩
      first | rfl | kernel_rfl | (unfold results; simp [Tryz.f64]; done) | (unfold results; rfl)
end Go.Proofs.YtkdgageljgfgoaaGreatDoor
namespace Go.Proofs.YtkdgageljgfgoaaGreatDoor
open Go.RowKit Go.Shelf
set_option linter.unusedSimpArgs false
attribute [local go_sem] Oper.semAt_some

abbrev markE : El := ((0, 0, ⟨#[]⟩, 0, 0), ⟨#[109, 97, 114, 107]⟩)
theorem exec_l44 {ev : Operand → Value} {x : Operand} {T : TypeId} {w : World} {B o : Nat} {v : Value} (hx : ev x = .pointer (some ⟨B, o, none⟩)) (h : w.cell? ⟨B, o, none⟩ = some v) : (execOp ev { dst := none, op := .load 44 x, type := T, pos := "", after := #[], guard := none }).run Tryz.prog w = .ok (.value v) w := by
  unfold execOp
  simp only [hx]
  go_simp
theorem exec_fa {ev : Operand → Value} {x : Operand} {T : TypeId} {w : World} {B : Nat} (hx : ev x = .pointer (some ⟨B, 0, none⟩)) : (execOp ev { dst := none, op := .fieldAddr 46 x 2, type := T, pos := "", after := #[], guard := none }).run Tryz.prog w = .ok (.value (.pointer (some ⟨B, 2, none⟩))) w := by
  unfold execOp
  simp only [hx]
  go_simp
theorem exec_len44 {ev : Operand → Value} {x : Operand} {T : TypeId} {w : World} {a : Option Addr} {n c : Nat} (hx : ev x = .slice a n c) : (execOp ev { dst := none, op := .call { callee := .builtin .len, args := #[x], argTypes := #[44] }, type := T, pos := "", after := #[], guard := none }).run Tryz.prog w = .ok (.value (.int .i64 (n : Int))) w := by
  unfold execOp
  simp only [hx]
  go_simp
theorem exec_bld {ev : Operand → Value} {T : TypeId} {w : World} (hx : ev (.const (.string ⟨#[109, 97, 114, 107]⟩)) = .string ⟨#[109, 97, 114, 107]⟩) : (execOp ev { dst := none, op := .build 77 #[(1, .const (.string ⟨#[109, 97, 114, 107]⟩))], type := T, pos := "", after := #[], guard := none }).run Tryz.prog w = .ok (.value (Go.Proofs.YtkdgageljgfgoaaGreatDoor.ev markE)) w := by
  unfold execOp
  simp only [hx]
  go_simp
theorem exec_bsE {ev : Operand → Value} {x : Operand} {T : TypeId} {w : World} {y : El} (hx : ev x = Go.Proofs.YtkdgageljgfgoaaGreatDoor.ev y) : (execOp ev { dst := none, op := .buildSlice 44 1 #[(0, x)], type := T, pos := "", after := #[], guard := none }).run Tryz.prog w = .ok (.value (.slice (some ⟨w.heap.size, 0, none⟩) 1 1)) (w.alloc (.cells (encE y).toArray 77)) := by
  unfold execOp
  simp only [hx]
  go_simp
  rfl
theorem exec_st44 {ev : Operand → Value} {x y : Operand} {T : TypeId} {w : World} {B : Nat} {u : Value} {n c : Nat} {ad : Option Addr} (hx : ev x = .pointer (some ⟨B, 2, none⟩)) (hy : ev y = .slice ad n c) (h : w.cell? ⟨B, 2, none⟩ = some u) (hf : w.frozen? ⟨B, 2, none⟩ = false) : (execOp ev { dst := none, op := .store 44 x y, type := T, pos := "", after := #[], guard := none }).run Tryz.prog w = .ok .skip (w.setCell ⟨B, 2, none⟩ (.slice ad n c)) := by
  unfold execOp
  simp only [hx, hy]
  go_simp
theorem mark_re {W : World} {m : Nat} (hm : W.heap[m]? = some (.cells (encE markE).toArray 77 (0, 0))) : Re W (some ⟨m, 0, none⟩) [markE] := Re.ofRe0 (fun j v hj => by
  rw [cell_of_row _ _ (0 + j) (encE markE).toArray 77 (0, 0) hm, Nat.zero_add]
  simpa [flatE] using hj)
theorem own_some {W : World} {B n c : Nat} {a : Option Addr} {l : List El} (h : Oe W B (.slice a n c) l) (hl : l ≠ []) : ∃ g, a = some ⟨g, 0, none⟩ := by
  rcases h.shape with ⟨_, e⟩ | ⟨g, cap, e, _⟩
  · exact absurd e hl
  · cases e; exact ⟨g, rfl⟩
def ops_c1 : Array Oper := #[{ dst := some 3, op := Go.Op.fieldAddr 46 (Go.Operand.tmp 1) 2, type := 0, pos := "law.go:38", after := #[], guard := none }, { dst := some 4, op := Go.Op.load 44 (Go.Operand.tmp 3), type := 44, pos := "law.go:38", after := #[{ on := 0, ground := Go.Ground.data }], guard := none }, { dst := some 5, op := Go.Op.call { callee := Go.Callee.builtin Go.Builtin.append, args := #[Go.Operand.const (Go.Value.slice none 0 0), Go.Operand.tmp 4], argTypes := #[44, 44] }, type := 44, pos := "law.go:38", after := #[{ on := 1, ground := Go.Ground.data }], guard := none }, { dst := some 6, op := Go.Op.build 77 #[(1, Go.Operand.const (Go.Value.string { data := #[109, 97, 114, 107] }))], type := 77, pos := "law.go:38", after := #[], guard := none }, { dst := some 7, op := Go.Op.buildSlice 44 1 #[(0, Go.Operand.tmp 6)], type := 44, pos := "law.go:38", after := #[{ on := 3, ground := Go.Ground.data }], guard := none }, { dst := some 8, op := Go.Op.call { callee := Go.Callee.builtin Go.Builtin.append, args := #[Go.Operand.tmp 5, Go.Operand.tmp 7], argTypes := #[44, 44] }, type := 44, pos := "law.go:38", after := #[{ on := 2, ground := Go.Ground.data }, { on := 4, ground := Go.Ground.data }, { on := 2, ground := Go.Ground.chain }], guard := none }, { dst := some 9, op := Go.Op.fieldAddr 46 (Go.Operand.tmp 1) 2, type := 0, pos := "law.go:38", after := #[], guard := none }, { dst := some 10, op := Go.Op.load 44 (Go.Operand.tmp 9), type := 44, pos := "law.go:38", after := #[{ on := 6, ground := Go.Ground.data }], guard := none }, { dst := some 11, op := Go.Op.call { callee := Go.Callee.builtin Go.Builtin.len, args := #[Go.Operand.tmp 10], argTypes := #[44] }, type := 3, pos := "law.go:38", after := #[{ on := 7, ground := Go.Ground.data }], guard := none }, { dst := some 12, op := Go.Op.slice 44 (Go.Operand.tmp 8) none (some (Go.Operand.tmp 11)) none, type := 44, pos := "law.go:38", after := #[{ on := 5, ground := Go.Ground.data }, { on := 8, ground := Go.Ground.data }], guard := none }, { dst := some 13, op := Go.Op.fieldAddr 46 (Go.Operand.tmp 1) 2, type := 0, pos := "law.go:38", after := #[{ on := 0, ground := Go.Ground.phase }, { on := 1, ground := Go.Ground.phase }, { on := 2, ground := Go.Ground.phase }, { on := 3, ground := Go.Ground.phase }, { on := 4, ground := Go.Ground.phase }, { on := 5, ground := Go.Ground.phase }, { on := 6, ground := Go.Ground.phase }, { on := 7, ground := Go.Ground.phase }, { on := 8, ground := Go.Ground.phase }, { on := 9, ground := Go.Ground.phase }], guard := none }, { dst := none, op := Go.Op.store 44 (Go.Operand.tmp 13) (Go.Operand.tmp 12), type := 0, pos := "law.go:38", after := #[{ on := 10, ground := Go.Ground.data }, { on := 9, ground := Go.Ground.data }, { on := 5, ground := Go.Ground.chain }, { on := 0, ground := Go.Ground.phase }, { on := 1, ground := Go.Ground.phase }, { on := 2, ground := Go.Ground.phase }, { on := 3, ground := Go.Ground.phase }, { on := 4, ground := Go.Ground.phase }, { on := 5, ground := Go.Ground.phase }, { on := 6, ground := Go.Ground.phase }, { on := 7, ground := Go.Ground.phase }, { on := 8, ground := Go.Ground.phase }, { on := 9, ground := Go.Ground.phase }], guard := none }]
set_option maxHeartbeats 4000000 in
set_option maxRecDepth 100000 in
theorem wp_c1 {Q : Exit → Act → World → Prop} {w1 : World} {k n : Int} {ao : Option Addr} {N c X Y : Nat} {l : List El} (hN : N = l.length) (hl : N ≤ 1000) (hc : ao = none → c = 0) (hre : Re w1 ao l) (hX : w1.heap[X]? = some (.cells #[.int .i64 k, .int .i64 n, .slice ao N c] 46 (0, 0)))
    (hq : ∀ c a i v w, Q (.panic c) (a.put (some i) v) w → Q (.panic c) a w)
    (h : ∀ W a5 c5 m g c8, Below w1.heap.size w1 W → Oe W w1.heap.size (.slice (some ⟨g, 0, none⟩) (N + 1) c8) (l ++ [markE]) → Q .normal ⟨#[vv k n ao N c, .pointer (some ⟨X, 0, none⟩), .pointer (some ⟨Y, 0, none⟩), .pointer (some ⟨X, 2, none⟩), .slice ao N c, .slice a5 N c5, ev markE, .slice (some ⟨m, 0, none⟩) 1 1, .slice (some ⟨g, 0, none⟩) (N + 1) c8, .pointer (some ⟨X, 2, none⟩), .slice ao N c, .int .i64 (N : Int), .slice (some ⟨g, 0, none⟩) N c8, .pointer (some ⟨X, 2, none⟩), undef], []⟩ (W.setCell ⟨X, 2, none⟩ (.slice (some ⟨g, 0, none⟩) N c8))) :
    (Code.region 1 ops_c1 true).wp Tryz.prog Q ⟨#[vv k n ao N c, .pointer (some ⟨X, 0, none⟩), .pointer (some ⟨Y, 0, none⟩), undef, undef, undef, undef, undef, undef, undef, undef, undef, undef, undef, undef], []⟩ w1 := by
  have hx2 : ∀ W, Below w1.heap.size w1 W → W.cell? ⟨X, 2, none⟩ = some (.slice ao N c) := fun W hW => (cell_of_row _ _ 2 _ 46 (0, 0) ((hW.block _ (Array.getElem?_eq_some_iff.1 hX).1).trans hX)).trans rfl
  have hfz : ∀ W, Below w1.heap.size w1 W → W.frozen? ⟨X, 2, none⟩ = false := fun W hW => frozen_of_row _ _ _ _ 46 ((hW.block _ (Array.getElem?_eq_some_iff.1 hX).1).trans hX)
  have hcap : ∀ W g c8, Oe W w1.heap.size (.slice (some ⟨g, 0, none⟩) (N + 1) c8) (l ++ [markE]) → N ≤ c8 := fun W g c8 hO => by
    obtain ⟨a', c', e, _, _, h3, _⟩ := hO.form
    simp only [Value.slice.injEq] at e
    obtain ⟨_, e2, e3⟩ := e
    omega
  have s311 : ∀ (W : World) (a5 : Option Addr) (c5 : Nat) (m : Nat) (g c8 : Nat) (hW : Below w1.heap.size w1 W) (hO : Oe W w1.heap.size (.slice (some ⟨g, 0, none⟩) (N + 1) c8) (l ++ [markE])), wpAnyH Tryz.prog .any ops_c1 Q (fun _ => True) 3 #[true, true, true, true, true, true, true, true, true, false, false, false] ⟨#[vv k n ao N c, .pointer (some ⟨X, 0, none⟩), .pointer (some ⟨Y, 0, none⟩), .pointer (some ⟨X, 2, none⟩), .slice ao N c, .slice a5 N c5, ev markE, .slice (some ⟨m, 0, none⟩) 1 1, .slice (some ⟨g, 0, none⟩) (N + 1) c8, .pointer (some ⟨X, 2, none⟩), .slice ao N c, .int .i64 (N : Int), undef, undef, undef], []⟩ W := by
    intro W a5 c5 m g c8 hW hO
    refine alone_op (i := 9) (d := 12) (OP := Op.slice 44 (Operand.tmp 8) none (some (Operand.tmp 11)) none) (T := 44) (v := .slice (some ⟨g, 0, none⟩) N c8) rfl rfl rfl rfl (by kernel_rfl) (by rfl) (exec_slE rfl rfl (sliceE_hi (ao := some ⟨g, 0, none⟩) (n := N + 1) (c := c8) (j := N) (hcap _ _ _ hO) (fun a ha => by cases ha; rfl) W)) trivial ?_
    refine take_op (i := 10) (d := 13) (OP := Op.fieldAddr 46 (Operand.tmp 1) 2) (T := 0) (v := .pointer (some ⟨X, 2, none⟩)) rfl rfl rfl rfl (by kernel_rfl) (by kernel_rfl) (by kernel_rfl) (fun c a w h => hq c a _ _ w h) (by rfl) (fun w' _ => exec_fa rfl) trivial ?_
    refine skip_op (i := 11) (OP := Op.store 44 (Operand.tmp 13) (Operand.tmp 12)) (T := 0) (w' := W.setCell ⟨X, 2, none⟩ (.slice (some ⟨g, 0, none⟩) N c8)) rfl rfl rfl rfl (by kernel_rfl) (by rfl) (exec_st44 rfl rfl (hx2 W hW) (hfz W hW)) ⟨trivial, ?_⟩
    refine wpAnyH_done (by kernel_rfl) ?_ _
    exact h W a5 c5 m g c8 hW hO
  have s301 : ∀ (W : World) (a5 : Option Addr) (c5 : Nat) (m : Nat) (g c8 : Nat) (hW : Below w1.heap.size w1 W) (hO : Oe W w1.heap.size (.slice (some ⟨g, 0, none⟩) (N + 1) c8) (l ++ [markE])), wpAnyH Tryz.prog .any ops_c1 Q (fun _ => True) 5 #[true, true, true, true, true, true, true, false, false, false, false, false] ⟨#[vv k n ao N c, .pointer (some ⟨X, 0, none⟩), .pointer (some ⟨Y, 0, none⟩), .pointer (some ⟨X, 2, none⟩), .slice ao N c, .slice a5 N c5, ev markE, .slice (some ⟨m, 0, none⟩) 1 1, .slice (some ⟨g, 0, none⟩) (N + 1) c8, .pointer (some ⟨X, 2, none⟩), undef, undef, undef, undef, undef], []⟩ W := by
    intro W a5 c5 m g c8 hW hO
    refine wpAnyH_ready (rs := [7]) (by kernel_rfl) (by simp) ?_
    refine AllReadyH.turn (i := 7) (d := 10) (OP := Op.load 44 (Operand.tmp 9)) (T := 44) (v := .slice ao N c) (w' := W) rfl rfl rfl rfl (by rfl) (exec_l44 rfl (hx2 W hW)) trivial ?_ ?_
    · refine take_op (i := 8) (d := 11) (OP := Op.call { callee := Callee.builtin Builtin.len, args := #[Operand.tmp 10], argTypes := #[44] }) (T := 3) (v := .int .i64 (N : Int)) rfl rfl rfl rfl (by kernel_rfl) (by kernel_rfl) (by kernel_rfl) (fun c a w h => hq c a _ _ w h) (by rfl) (fun w' _ => exec_len44 rfl) trivial ?_
      exact s311 W _ _ _ _ _ hW hO
    exact AllReadyH.nil
  have s211 : ∀ (W : World) (a5 : Option Addr) (c5 : Nat) (m : Nat) (hW : Below w1.heap.size w1 W) (hO : Oe W w1.heap.size (.slice a5 N c5) l) (hm : W.heap[m]? = some (.cells (encE markE).toArray 77 (0, 0))), wpAnyH Tryz.prog .any ops_c1 Q (fun _ => True) 4 #[true, true, true, true, true, false, true, true, true, false, false, false] ⟨#[vv k n ao N c, .pointer (some ⟨X, 0, none⟩), .pointer (some ⟨Y, 0, none⟩), .pointer (some ⟨X, 2, none⟩), .slice ao N c, .slice a5 N c5, ev markE, .slice (some ⟨m, 0, none⟩) 1 1, undef, .pointer (some ⟨X, 2, none⟩), .slice ao N c, .int .i64 (N : Int), undef, undef, undef], []⟩ W := by
    intro W a5 c5 m hW hO hm
    refine wpAnyH_ready (rs := [5]) (by kernel_rfl) (by simp) ?_
    obtain ⟨a8, c8, w8, hr8, ho8, hb8⟩ := app_elems (l := [markE]) (ao := some ⟨m, 0, none⟩) (c := 1) hO (by simp) (mark_re hm) (by rw [← hN]; simp; omega) hW.size
    obtain ⟨g, rfl⟩ := own_some ho8 (by simp)
    rw [List.length_append, ← hN] at hr8 ho8
    refine AllReadyH.turn (i := 5) (d := 8) (OP := Op.call { callee := Callee.builtin Builtin.append, args := #[Operand.tmp 5, Operand.tmp 7], argTypes := #[44, 44] }) (T := 44) (v := .slice (some ⟨g, 0, none⟩) (N + 1) c8) (w' := w8) rfl rfl rfl rfl (by rfl) (exec_append rfl rfl hr8) trivial ?_ ?_
    · exact s311 w8 a5 c5 m g c8 (hW.trans hb8) ho8
    exact AllReadyH.nil
  have s210 : ∀ (W : World) (a5 : Option Addr) (c5 : Nat) (hW : Below w1.heap.size w1 W) (hO : Oe W w1.heap.size (.slice a5 N c5) l), wpAnyH Tryz.prog .any ops_c1 Q (fun _ => True) 5 #[true, true, true, true, false, false, true, true, true, false, false, false] ⟨#[vv k n ao N c, .pointer (some ⟨X, 0, none⟩), .pointer (some ⟨Y, 0, none⟩), .pointer (some ⟨X, 2, none⟩), .slice ao N c, .slice a5 N c5, ev markE, undef, undef, .pointer (some ⟨X, 2, none⟩), .slice ao N c, .int .i64 (N : Int), undef, undef, undef], []⟩ W := by
    intro W a5 c5 hW hO
    refine wpAnyH_ready (rs := [4]) (by kernel_rfl) (by simp) ?_
    refine AllReadyH.turn (i := 4) (d := 7) (OP := Op.buildSlice 44 1 #[(0, Operand.tmp 6)]) (T := 44) (v := .slice (some ⟨W.heap.size, 0, none⟩) 1 1) (w' := W.alloc (.cells (encE markE).toArray 77)) rfl rfl rfl rfl (by rfl) (exec_bsE rfl) trivial ?_ ?_
    · exact s211 _ _ _ _ (hW.alloc hW.size _) (hO.alloc _) (heap_alloc_new W _)
    exact AllReadyH.nil
  have s201 : ∀ (W : World) (a5 : Option Addr) (c5 : Nat) (m : Nat) (hW : Below w1.heap.size w1 W) (hO : Oe W w1.heap.size (.slice a5 N c5) l) (hm : W.heap[m]? = some (.cells (encE markE).toArray 77 (0, 0))), wpAnyH Tryz.prog .any ops_c1 Q (fun _ => True) 6 #[true, true, true, true, true, false, true, false, false, false, false, false] ⟨#[vv k n ao N c, .pointer (some ⟨X, 0, none⟩), .pointer (some ⟨Y, 0, none⟩), .pointer (some ⟨X, 2, none⟩), .slice ao N c, .slice a5 N c5, ev markE, .slice (some ⟨m, 0, none⟩) 1 1, undef, .pointer (some ⟨X, 2, none⟩), undef, undef, undef, undef, undef], []⟩ W := by
    intro W a5 c5 m hW hO hm
    refine wpAnyH_ready (rs := [5, 7]) (by kernel_rfl) (by simp) ?_
    obtain ⟨a8, c8, w8, hr8, ho8, hb8⟩ := app_elems (l := [markE]) (ao := some ⟨m, 0, none⟩) (c := 1) hO (by simp) (mark_re hm) (by rw [← hN]; simp; omega) hW.size
    obtain ⟨g, rfl⟩ := own_some ho8 (by simp)
    rw [List.length_append, ← hN] at hr8 ho8
    refine AllReadyH.turn (i := 5) (d := 8) (OP := Op.call { callee := Callee.builtin Builtin.append, args := #[Operand.tmp 5, Operand.tmp 7], argTypes := #[44, 44] }) (T := 44) (v := .slice (some ⟨g, 0, none⟩) (N + 1) c8) (w' := w8) rfl rfl rfl rfl (by rfl) (exec_append rfl rfl hr8) trivial ?_ ?_
    · exact s301 w8 a5 c5 m g c8 (hW.trans hb8) ho8
    refine AllReadyH.turn (i := 7) (d := 10) (OP := Op.load 44 (Operand.tmp 9)) (T := 44) (v := .slice ao N c) (w' := W) rfl rfl rfl rfl (by rfl) (exec_l44 rfl (hx2 W hW)) trivial ?_ ?_
    · refine take_op (i := 8) (d := 11) (OP := Op.call { callee := Callee.builtin Builtin.len, args := #[Operand.tmp 10], argTypes := #[44] }) (T := 3) (v := .int .i64 (N : Int)) rfl rfl rfl rfl (by kernel_rfl) (by kernel_rfl) (by kernel_rfl) (fun c a w h => hq c a _ _ w h) (by rfl) (fun w' _ => exec_len44 rfl) trivial ?_
      exact s211 W _ _ _ hW hO hm
    exact AllReadyH.nil
  have s200 : ∀ (W : World) (a5 : Option Addr) (c5 : Nat) (hW : Below w1.heap.size w1 W) (hO : Oe W w1.heap.size (.slice a5 N c5) l), wpAnyH Tryz.prog .any ops_c1 Q (fun _ => True) 7 #[true, true, true, true, false, false, true, false, false, false, false, false] ⟨#[vv k n ao N c, .pointer (some ⟨X, 0, none⟩), .pointer (some ⟨Y, 0, none⟩), .pointer (some ⟨X, 2, none⟩), .slice ao N c, .slice a5 N c5, ev markE, undef, undef, .pointer (some ⟨X, 2, none⟩), undef, undef, undef, undef, undef], []⟩ W := by
    intro W a5 c5 hW hO
    refine wpAnyH_ready (rs := [4, 7]) (by kernel_rfl) (by simp) ?_
    refine AllReadyH.turn (i := 4) (d := 7) (OP := Op.buildSlice 44 1 #[(0, Operand.tmp 6)]) (T := 44) (v := .slice (some ⟨W.heap.size, 0, none⟩) 1 1) (w' := W.alloc (.cells (encE markE).toArray 77)) rfl rfl rfl rfl (by rfl) (exec_bsE rfl) trivial ?_ ?_
    · exact s201 _ _ _ _ (hW.alloc hW.size _) (hO.alloc _) (heap_alloc_new W _)
    refine AllReadyH.turn (i := 7) (d := 10) (OP := Op.load 44 (Operand.tmp 9)) (T := 44) (v := .slice ao N c) (w' := W) rfl rfl rfl rfl (by rfl) (exec_l44 rfl (hx2 W hW)) trivial ?_ ?_
    · refine take_op (i := 8) (d := 11) (OP := Op.call { callee := Callee.builtin Builtin.len, args := #[Operand.tmp 10], argTypes := #[44] }) (T := 3) (v := .int .i64 (N : Int)) rfl rfl rfl rfl (by kernel_rfl) (by kernel_rfl) (by kernel_rfl) (fun c a w h => hq c a _ _ w h) (by rfl) (fun w' _ => exec_len44 rfl) trivial ?_
      exact s210 W _ _ hW hO
    exact AllReadyH.nil
  have s111 : ∀ (W : World) (m : Nat) (hW : Below w1.heap.size w1 W) (hm : W.heap[m]? = some (.cells (encE markE).toArray 77 (0, 0))), wpAnyH Tryz.prog .any ops_c1 Q (fun _ => True) 5 #[true, true, false, true, true, false, true, true, true, false, false, false] ⟨#[vv k n ao N c, .pointer (some ⟨X, 0, none⟩), .pointer (some ⟨Y, 0, none⟩), .pointer (some ⟨X, 2, none⟩), .slice ao N c, undef, ev markE, .slice (some ⟨m, 0, none⟩) 1 1, undef, .pointer (some ⟨X, 2, none⟩), .slice ao N c, .int .i64 (N : Int), undef, undef, undef], []⟩ W := by
    intro W m hW hm
    refine wpAnyH_ready (rs := [2]) (by kernel_rfl) (by simp) ?_
    obtain ⟨a5, c5, w5, hr5, ho5, hb5⟩ := app_elems (Oe.nil W W.heap.size) hc ((hre.below hW)) (by simp; omega) (Nat.le_refl _)
    simp only [List.nil_append] at hr5 ho5
    rw [← hN] at hr5 ho5
    refine AllReadyH.turn (i := 2) (d := 5) (OP := Op.call { callee := Callee.builtin Builtin.append, args := #[Operand.const (Value.slice none 0 0), Operand.tmp 4], argTypes := #[44, 44] }) (T := 44) (v := .slice a5 N c5) (w' := w5) rfl rfl rfl rfl (by rfl) (exec_append rfl rfl hr5) trivial ?_ ?_
    · exact s211 w5 a5 c5 m (hW.trans (hb5.mono hW.size)) (ho5.lift hW.size) ((hb5.block _ (Array.getElem?_eq_some_iff.1 hm).1).trans hm)
    exact AllReadyH.nil
  have s110 : ∀ (W : World) (hW : Below w1.heap.size w1 W), wpAnyH Tryz.prog .any ops_c1 Q (fun _ => True) 6 #[true, true, false, true, false, false, true, true, true, false, false, false] ⟨#[vv k n ao N c, .pointer (some ⟨X, 0, none⟩), .pointer (some ⟨Y, 0, none⟩), .pointer (some ⟨X, 2, none⟩), .slice ao N c, undef, ev markE, undef, undef, .pointer (some ⟨X, 2, none⟩), .slice ao N c, .int .i64 (N : Int), undef, undef, undef], []⟩ W := by
    intro W hW
    refine wpAnyH_ready (rs := [2, 4]) (by kernel_rfl) (by simp) ?_
    obtain ⟨a5, c5, w5, hr5, ho5, hb5⟩ := app_elems (Oe.nil W W.heap.size) hc ((hre.below hW)) (by simp; omega) (Nat.le_refl _)
    simp only [List.nil_append] at hr5 ho5
    rw [← hN] at hr5 ho5
    refine AllReadyH.turn (i := 2) (d := 5) (OP := Op.call { callee := Callee.builtin Builtin.append, args := #[Operand.const (Value.slice none 0 0), Operand.tmp 4], argTypes := #[44, 44] }) (T := 44) (v := .slice a5 N c5) (w' := w5) rfl rfl rfl rfl (by rfl) (exec_append rfl rfl hr5) trivial ?_ ?_
    · exact s210 w5 a5 c5 (hW.trans (hb5.mono hW.size)) (ho5.lift hW.size)
    refine AllReadyH.turn (i := 4) (d := 7) (OP := Op.buildSlice 44 1 #[(0, Operand.tmp 6)]) (T := 44) (v := .slice (some ⟨W.heap.size, 0, none⟩) 1 1) (w' := W.alloc (.cells (encE markE).toArray 77)) rfl rfl rfl rfl (by rfl) (exec_bsE rfl) trivial ?_ ?_
    · exact s111 _ _ (hW.alloc hW.size _) (heap_alloc_new W _)
    exact AllReadyH.nil
  have s101 : ∀ (W : World) (m : Nat) (hW : Below w1.heap.size w1 W) (hm : W.heap[m]? = some (.cells (encE markE).toArray 77 (0, 0))), wpAnyH Tryz.prog .any ops_c1 Q (fun _ => True) 7 #[true, true, false, true, true, false, true, false, false, false, false, false] ⟨#[vv k n ao N c, .pointer (some ⟨X, 0, none⟩), .pointer (some ⟨Y, 0, none⟩), .pointer (some ⟨X, 2, none⟩), .slice ao N c, undef, ev markE, .slice (some ⟨m, 0, none⟩) 1 1, undef, .pointer (some ⟨X, 2, none⟩), undef, undef, undef, undef, undef], []⟩ W := by
    intro W m hW hm
    refine wpAnyH_ready (rs := [2, 7]) (by kernel_rfl) (by simp) ?_
    obtain ⟨a5, c5, w5, hr5, ho5, hb5⟩ := app_elems (Oe.nil W W.heap.size) hc ((hre.below hW)) (by simp; omega) (Nat.le_refl _)
    simp only [List.nil_append] at hr5 ho5
    rw [← hN] at hr5 ho5
    refine AllReadyH.turn (i := 2) (d := 5) (OP := Op.call { callee := Callee.builtin Builtin.append, args := #[Operand.const (Value.slice none 0 0), Operand.tmp 4], argTypes := #[44, 44] }) (T := 44) (v := .slice a5 N c5) (w' := w5) rfl rfl rfl rfl (by rfl) (exec_append rfl rfl hr5) trivial ?_ ?_
    · exact s201 w5 a5 c5 m (hW.trans (hb5.mono hW.size)) (ho5.lift hW.size) ((hb5.block _ (Array.getElem?_eq_some_iff.1 hm).1).trans hm)
    refine AllReadyH.turn (i := 7) (d := 10) (OP := Op.load 44 (Operand.tmp 9)) (T := 44) (v := .slice ao N c) (w' := W) rfl rfl rfl rfl (by rfl) (exec_l44 rfl (hx2 W hW)) trivial ?_ ?_
    · refine take_op (i := 8) (d := 11) (OP := Op.call { callee := Callee.builtin Builtin.len, args := #[Operand.tmp 10], argTypes := #[44] }) (T := 3) (v := .int .i64 (N : Int)) rfl rfl rfl rfl (by kernel_rfl) (by kernel_rfl) (by kernel_rfl) (fun c a w h => hq c a _ _ w h) (by rfl) (fun w' _ => exec_len44 rfl) trivial ?_
      exact s111 W _ hW hm
    exact AllReadyH.nil
  have s100 : ∀ (W : World) (hW : Below w1.heap.size w1 W), wpAnyH Tryz.prog .any ops_c1 Q (fun _ => True) 8 #[true, true, false, true, false, false, true, false, false, false, false, false] ⟨#[vv k n ao N c, .pointer (some ⟨X, 0, none⟩), .pointer (some ⟨Y, 0, none⟩), .pointer (some ⟨X, 2, none⟩), .slice ao N c, undef, ev markE, undef, undef, .pointer (some ⟨X, 2, none⟩), undef, undef, undef, undef, undef], []⟩ W := by
    intro W hW
    refine wpAnyH_ready (rs := [2, 4, 7]) (by kernel_rfl) (by simp) ?_
    obtain ⟨a5, c5, w5, hr5, ho5, hb5⟩ := app_elems (Oe.nil W W.heap.size) hc ((hre.below hW)) (by simp; omega) (Nat.le_refl _)
    simp only [List.nil_append] at hr5 ho5
    rw [← hN] at hr5 ho5
    refine AllReadyH.turn (i := 2) (d := 5) (OP := Op.call { callee := Callee.builtin Builtin.append, args := #[Operand.const (Value.slice none 0 0), Operand.tmp 4], argTypes := #[44, 44] }) (T := 44) (v := .slice a5 N c5) (w' := w5) rfl rfl rfl rfl (by rfl) (exec_append rfl rfl hr5) trivial ?_ ?_
    · exact s200 w5 a5 c5 (hW.trans (hb5.mono hW.size)) (ho5.lift hW.size)
    refine AllReadyH.turn (i := 4) (d := 7) (OP := Op.buildSlice 44 1 #[(0, Operand.tmp 6)]) (T := 44) (v := .slice (some ⟨W.heap.size, 0, none⟩) 1 1) (w' := W.alloc (.cells (encE markE).toArray 77)) rfl rfl rfl rfl (by rfl) (exec_bsE rfl) trivial ?_ ?_
    · exact s101 _ _ (hW.alloc hW.size _) (heap_alloc_new W _)
    refine AllReadyH.turn (i := 7) (d := 10) (OP := Op.load 44 (Operand.tmp 9)) (T := 44) (v := .slice ao N c) (w' := W) rfl rfl rfl rfl (by rfl) (exec_l44 rfl (hx2 W hW)) trivial ?_ ?_
    · refine take_op (i := 8) (d := 11) (OP := Op.call { callee := Callee.builtin Builtin.len, args := #[Operand.tmp 10], argTypes := #[44] }) (T := 3) (v := .int .i64 (N : Int)) rfl rfl rfl rfl (by kernel_rfl) (by kernel_rfl) (by kernel_rfl) (fun c a w h => hq c a _ _ w h) (by rfl) (fun w' _ => exec_len44 rfl) trivial ?_
      exact s110 W hW
    exact AllReadyH.nil
  have s011 : ∀ (W : World) (m : Nat) (hW : Below w1.heap.size w1 W) (hm : W.heap[m]? = some (.cells (encE markE).toArray 77 (0, 0))), wpAnyH Tryz.prog .any ops_c1 Q (fun _ => True) 6 #[true, false, false, true, true, false, true, true, true, false, false, false] ⟨#[vv k n ao N c, .pointer (some ⟨X, 0, none⟩), .pointer (some ⟨Y, 0, none⟩), .pointer (some ⟨X, 2, none⟩), undef, undef, ev markE, .slice (some ⟨m, 0, none⟩) 1 1, undef, .pointer (some ⟨X, 2, none⟩), .slice ao N c, .int .i64 (N : Int), undef, undef, undef], []⟩ W := by
    intro W m hW hm
    refine wpAnyH_ready (rs := [1]) (by kernel_rfl) (by simp) ?_
    refine AllReadyH.turn (i := 1) (d := 4) (OP := Op.load 44 (Operand.tmp 3)) (T := 44) (v := .slice ao N c) (w' := W) rfl rfl rfl rfl (by rfl) (exec_l44 rfl (hx2 W hW)) trivial ?_ ?_
    · exact s111 W _ hW hm
    exact AllReadyH.nil
  have s010 : ∀ (W : World) (hW : Below w1.heap.size w1 W), wpAnyH Tryz.prog .any ops_c1 Q (fun _ => True) 7 #[true, false, false, true, false, false, true, true, true, false, false, false] ⟨#[vv k n ao N c, .pointer (some ⟨X, 0, none⟩), .pointer (some ⟨Y, 0, none⟩), .pointer (some ⟨X, 2, none⟩), undef, undef, ev markE, undef, undef, .pointer (some ⟨X, 2, none⟩), .slice ao N c, .int .i64 (N : Int), undef, undef, undef], []⟩ W := by
    intro W hW
    refine wpAnyH_ready (rs := [1, 4]) (by kernel_rfl) (by simp) ?_
    refine AllReadyH.turn (i := 1) (d := 4) (OP := Op.load 44 (Operand.tmp 3)) (T := 44) (v := .slice ao N c) (w' := W) rfl rfl rfl rfl (by rfl) (exec_l44 rfl (hx2 W hW)) trivial ?_ ?_
    · exact s110 W hW
    refine AllReadyH.turn (i := 4) (d := 7) (OP := Op.buildSlice 44 1 #[(0, Operand.tmp 6)]) (T := 44) (v := .slice (some ⟨W.heap.size, 0, none⟩) 1 1) (w' := W.alloc (.cells (encE markE).toArray 77)) rfl rfl rfl rfl (by rfl) (exec_bsE rfl) trivial ?_ ?_
    · exact s011 _ _ (hW.alloc hW.size _) (heap_alloc_new W _)
    exact AllReadyH.nil
  have s001 : ∀ (W : World) (m : Nat) (hW : Below w1.heap.size w1 W) (hm : W.heap[m]? = some (.cells (encE markE).toArray 77 (0, 0))), wpAnyH Tryz.prog .any ops_c1 Q (fun _ => True) 8 #[true, false, false, true, true, false, true, false, false, false, false, false] ⟨#[vv k n ao N c, .pointer (some ⟨X, 0, none⟩), .pointer (some ⟨Y, 0, none⟩), .pointer (some ⟨X, 2, none⟩), undef, undef, ev markE, .slice (some ⟨m, 0, none⟩) 1 1, undef, .pointer (some ⟨X, 2, none⟩), undef, undef, undef, undef, undef], []⟩ W := by
    intro W m hW hm
    refine wpAnyH_ready (rs := [1, 7]) (by kernel_rfl) (by simp) ?_
    refine AllReadyH.turn (i := 1) (d := 4) (OP := Op.load 44 (Operand.tmp 3)) (T := 44) (v := .slice ao N c) (w' := W) rfl rfl rfl rfl (by rfl) (exec_l44 rfl (hx2 W hW)) trivial ?_ ?_
    · exact s101 W _ hW hm
    refine AllReadyH.turn (i := 7) (d := 10) (OP := Op.load 44 (Operand.tmp 9)) (T := 44) (v := .slice ao N c) (w' := W) rfl rfl rfl rfl (by rfl) (exec_l44 rfl (hx2 W hW)) trivial ?_ ?_
    · refine take_op (i := 8) (d := 11) (OP := Op.call { callee := Callee.builtin Builtin.len, args := #[Operand.tmp 10], argTypes := #[44] }) (T := 3) (v := .int .i64 (N : Int)) rfl rfl rfl rfl (by kernel_rfl) (by kernel_rfl) (by kernel_rfl) (fun c a w h => hq c a _ _ w h) (by rfl) (fun w' _ => exec_len44 rfl) trivial ?_
      exact s011 W _ hW hm
    exact AllReadyH.nil
  have s000 : ∀ (W : World) (hW : Below w1.heap.size w1 W), wpAnyH Tryz.prog .any ops_c1 Q (fun _ => True) 9 #[true, false, false, true, false, false, true, false, false, false, false, false] ⟨#[vv k n ao N c, .pointer (some ⟨X, 0, none⟩), .pointer (some ⟨Y, 0, none⟩), .pointer (some ⟨X, 2, none⟩), undef, undef, ev markE, undef, undef, .pointer (some ⟨X, 2, none⟩), undef, undef, undef, undef, undef], []⟩ W := by
    intro W hW
    refine wpAnyH_ready (rs := [1, 4, 7]) (by kernel_rfl) (by simp) ?_
    refine AllReadyH.turn (i := 1) (d := 4) (OP := Op.load 44 (Operand.tmp 3)) (T := 44) (v := .slice ao N c) (w' := W) rfl rfl rfl rfl (by rfl) (exec_l44 rfl (hx2 W hW)) trivial ?_ ?_
    · exact s100 W hW
    refine AllReadyH.turn (i := 4) (d := 7) (OP := Op.buildSlice 44 1 #[(0, Operand.tmp 6)]) (T := 44) (v := .slice (some ⟨W.heap.size, 0, none⟩) 1 1) (w' := W.alloc (.cells (encE markE).toArray 77)) rfl rfl rfl rfl (by rfl) (exec_bsE rfl) trivial ?_ ?_
    · exact s001 _ _ (hW.alloc hW.size _) (heap_alloc_new W _)
    refine AllReadyH.turn (i := 7) (d := 10) (OP := Op.load 44 (Operand.tmp 9)) (T := 44) (v := .slice ao N c) (w' := W) rfl rfl rfl rfl (by rfl) (exec_l44 rfl (hx2 W hW)) trivial ?_ ?_
    · refine take_op (i := 8) (d := 11) (OP := Op.call { callee := Callee.builtin Builtin.len, args := #[Operand.tmp 10], argTypes := #[44] }) (T := 3) (v := .int .i64 (N : Int)) rfl rfl rfl rfl (by kernel_rfl) (by kernel_rfl) (by kernel_rfl) (fun c a w h => hq c a _ _ w h) (by rfl) (fun w' _ => exec_len44 rfl) trivial ?_
      exact s010 W hW
    exact AllReadyH.nil
  refine wp_region_held_drew (S := fun _ => True) (by kernel_rfl) trivial (fun _ => ?_)
  refine take_op (i := 0) (d := 3) (OP := Op.fieldAddr 46 (Operand.tmp 1) 2) (T := 0) (v := .pointer (some ⟨X, 2, none⟩)) rfl rfl rfl rfl (by kernel_rfl) (by kernel_rfl) (by kernel_rfl) (fun c a w h => hq c a _ _ w h) (by rfl) (fun w' _ => exec_fa rfl) trivial ?_
  refine take_op (i := 3) (d := 6) (OP := Op.build 77 #[(1, Operand.const (Value.string { data := #[109, 97, 114, 107] }))]) (T := 77) (v := Go.Proofs.YtkdgageljgfgoaaGreatDoor.ev markE) rfl rfl rfl rfl (by kernel_rfl) (by kernel_rfl) (by kernel_rfl) (fun c a w h => hq c a _ _ w h) (by rfl) (fun w' _ => exec_bld rfl) trivial ?_
  refine take_op (i := 6) (d := 9) (OP := Op.fieldAddr 46 (Operand.tmp 1) 2) (T := 0) (v := .pointer (some ⟨X, 2, none⟩)) rfl rfl rfl rfl (by kernel_rfl) (by kernel_rfl) (by kernel_rfl) (fun c a w h => hq c a _ _ w h) (by rfl) (fun w' _ => exec_fa rfl) trivial ?_
  exact s000 w1.drew (drew_below w1)
/-- A copy with a mark behind it. -/
def CopE (w : World) (k n : Int) (l : List El) (e : Ending) (w' : World) : Prop := ∃ g c', e = .returned (vv k n (some ⟨g, 0, none⟩) l.length c') ∧ Oe w' w.heap.size (.slice (some ⟨g, 0, none⟩) (l.length + 1) c') (l ++ [markE]) ∧ Below w.heap.size w w'
set_option maxHeartbeats 4000000 in
set_option maxRecDepth 100000 in
theorem copied_any {w : World} (k n : Int) {ao : Option Addr} {c : Nat} {l : List El} (h : Re w ao l) (hc : ao = none → c = 0) (hl : l.length ≤ 1000) : Calls Tryz.prog 22 #[vv k n ao l.length c] w (CopE w k n l) := by
  obtain ⟨N, hN⟩ : ∃ N, N = l.length := ⟨_, rfl⟩
  obtain ⟨m0, m1, b1⟩ := new2b w (.cells #[.int .i64 k, .int .i64 n, .slice ao N c] 46) (.cells #[.int .i64 0, .int .i64 0, .slice none 0 0] 46)
  obtain ⟨w1, hw1⟩ : ∃ w1, w1 = (w.alloc (.cells #[.int .i64 k, .int .i64 n, .slice ao N c] 46)).alloc (.cells #[.int .i64 0, .int .i64 0, .slice none 0 0] 46) := ⟨_, rfl⟩
  rw [← hw1] at m0 m1 b1
  obtain ⟨X, hX⟩ : ∃ X, X = w.heap.size := ⟨_, rfl⟩
  obtain ⟨Y, hY⟩ : ∃ Y, Y = w.heap.size + 1 := ⟨_, rfl⟩
  rw [← hX] at m0
  rw [← hY] at m1
  have hs1 : w1.heap.size = w.heap.size + 2 := by rw [hw1]; simp
  have hre := h.below b1
  rw [← hN] at hl ⊢
  have H := hide (And.intro hw1 (And.intro hX (And.intro hY (And.intro hs1 (And.intro b1 (And.intro m0 (And.intro m1 (And.intro hre hN))))))))
  clear hw1 hX hY hs1 b1 m0 m1 hre h hN
  go_enter Tryz.func22, Tryz.ntmps22
  go_upto_region 1 with fail
  obtain ⟨t1, t2, t3, -⟩ := H.out
  rw [← t1, ← t3, ← t2]
  clear t1 t2 t3
  refine wp_c1 H.out.2.2.2.2.2.2.2.2 hl hc H.out.2.2.2.2.2.2.2.1 H.out.2.2.2.2.2.1 (fun _ _ _ _ _ h => h) ?_
  intro W a5 c5 m g c8 hW hO
  have hXb : W.heap[X]? = some (.cells #[.int .i64 k, .int .i64 n, .slice ao N c] 46 (0, 0)) := (hW.block _ (Array.getElem?_eq_some_iff.1 H.out.2.2.2.2.2.1).1).trans H.out.2.2.2.2.2.1
  have hYb : W.heap[Y]? = some (.cells #[.int .i64 0, .int .i64 0, .slice none 0 0] 46 (0, 0)) := (hW.block _ (Array.getElem?_eq_some_iff.1 H.out.2.2.2.2.2.2.1).1).trans H.out.2.2.2.2.2.2.1
  have hXY : X ≠ Y := by have := H.out; omega
  obtain ⟨s1, s2⟩ := set_one (i := 2) (.slice (some ⟨g, 0, none⟩) N c8) hXb
  obtain ⟨W2, hW2⟩ : ∃ W2, W2 = W.setCell ⟨X, 2, none⟩ (.slice (some ⟨g, 0, none⟩) N c8) := ⟨_, rfl⟩
  rw [← hW2] at s1 s2 ⊢
  have s1' : W2.heap[X]? = some (.cells #[.int .i64 k, .int .i64 n, .slice (some ⟨g, 0, none⟩) N c8] 46 (0, 0)) := s1
  have x0 : W2.cell? ⟨X, 0, none⟩ = some (.int .i64 k) := (cell_of_row _ _ 0 _ 46 (0, 0) s1').trans rfl
  have x1 : W2.cell? ⟨X, 1, none⟩ = some (.int .i64 n) := (cell_of_row _ _ 1 _ 46 (0, 0) s1').trans rfl
  have x2 : W2.cell? ⟨X, 2, none⟩ = some (.slice (some ⟨g, 0, none⟩) N c8) := (cell_of_row _ _ 2 _ 46 (0, 0) s1').trans rfl
  have y2 : W2.heap[Y]? = some (.cells #[.int .i64 0, .int .i64 0, .slice none 0 0] 46 (0, 0)) := by
    rw [s2.block Y (Array.getElem?_eq_some_iff.1 hYb).1 (fun e => hXY e.symm)]; exact hYb
  have hgX : g ≠ X := by
    obtain ⟨a', c', e, _, _, _, h4⟩ := hO.form
    simp only [Value.slice.injEq] at e
    obtain ⟨e1, _, _⟩ := e
    have := (h4 _ e1.symm).1
    have := H.out
    simp only at *
    omega
  have hO2 : Oe W2 w1.heap.size (.slice (some ⟨g, 0, none⟩) (N + 1) c8) (l ++ [markE]) := hO.only s2 (fun k hk => by
    simp only [Value.ownBlock, Option.some.injEq] at hk
    rw [← hk]; exact hgX)
  have hbW : Below w.heap.size w W2 := by
    have hb := nextB H.out.2.2.2.2.1 hW
    exact Below.only hb s2 hb.size (fun j e => by have := H.out; omega)
  have HZ := hide (And.intro hO2 (And.intro hbW (And.intro hgX hXY)))
  clear hXb hYb hXY s1 s2 s1' hW hO hO2 hbW hgX hW2
  go_wp2_with (refine wpList_storeV rfl rfl _ _ rfl Y k n (some ⟨g, 0, none⟩) N c8 rfl rfl y2 ?_; intro w9 H9)
  refine ret_row Y [.int .i64 k, .int .i64 n, .slice (some ⟨g, 0, none⟩) N c8] rfl rfl Tryz.underlying46 rfl Tryz.info46 H9.out.1 rfl ?_
  refine ⟨g, c8, by rw [← H.out.2.2.2.2.2.2.2.2], ?_, ?_⟩
  · rw [← H.out.2.2.2.2.2.2.2.2]
    refine (HZ.out.1.only H9.out.2 (fun k hk => ?_)).lift (by have := H.out; omega)
    simp only [Value.ownBlock, Option.some.injEq] at hk
    obtain ⟨a', c', e, _, _, _, h4⟩ := HZ.out.1.form
    simp only [Value.slice.injEq] at e
    obtain ⟨e1, _, _⟩ := e
    have h5 := (h4 _ e1.symm).1
    have := H.out
    simp only at h5
    omega
  · exact Below.only HZ.out.2.1 H9.out.2 HZ.out.2.1.size (fun j e => by have := H.out; omega)
end Go.Proofs.YtkdgageljgfgoaaGreatDoor
namespace Go.Proofs.YtkdgageljgfgoaaGreatDoor
open Go.RowKit Go.Shelf
set_option linter.unusedSimpArgs false
attribute [local go_sem] Oper.semAt_some

theorem Oe.rowE {w : World} {B g n c : Nat} {L : List El} (h : Oe w B (.slice (some ⟨g, 0, none⟩) n c) L) : ∃ S, RowE w g S ∧ L.length * 6 ≤ S ∧ L.length ≤ c := by
  obtain ⟨h1, h2 | ⟨g', cap, cur, e, _, hg, h3, _, h5, _⟩⟩ := h
  · obtain ⟨e, _⟩ := h2; cases e
  · simp only [Value.slice.injEq, Option.some.injEq, Addr.mk.injEq] at e
    obtain ⟨⟨rfl, _, _⟩, _, rfl⟩ := e
    exact ⟨cur.size, ⟨cur, hg, rfl⟩, by rw [h5]; exact Nat.mul_le_mul_right 6 h3, h3⟩
set_option maxHeartbeats 8000000 in
set_option maxRecDepth 100000 in
theorem left_any {w : World} (k n : Int) {ao : Option Addr} {c B g cm : Nat} {l : List El} (hO : Oe w B (.slice (some ⟨g, 0, none⟩) (l.length + 1) cm) (l ++ [markE])) (h : Re w ao l) (hl : l.length ≤ 1000) : Calls Tryz.prog 28 #[vv k n (some ⟨g, 0, none⟩) l.length cm, vv k n ao l.length c] w fun e w' => e = .returned (.bool true) ∧ Only (fun j => j = g) w w' := by
  obtain ⟨N, hN⟩ : ∃ N, N = l.length := ⟨_, rfl⟩
  obtain ⟨M, hM⟩ : ∃ M, M = N + 1 := ⟨_, rfl⟩
  obtain ⟨m0, m1, b1⟩ := new2b w (.cells #[.int .i64 k, .int .i64 n, .slice (some ⟨g, 0, none⟩) N cm] 46) (.cells #[.int .i64 k, .int .i64 n, .slice ao N c] 46)
  obtain ⟨w1, hw1⟩ : ∃ w1, w1 = (w.alloc (.cells #[.int .i64 k, .int .i64 n, .slice (some ⟨g, 0, none⟩) N cm] 46)).alloc (.cells #[.int .i64 k, .int .i64 n, .slice ao N c] 46) := ⟨_, rfl⟩
  rw [← hw1] at m0 m1 b1
  obtain ⟨X, hX⟩ : ∃ X, X = w.heap.size := ⟨_, rfl⟩
  obtain ⟨Y, hY⟩ : ∃ Y, Y = w.heap.size + 1 := ⟨_, rfl⟩
  rw [← hX] at m0
  rw [← hY] at m1
  obtain ⟨S, hS1, hS2, hS3⟩ := hO.rowE
  rw [List.length_append] at hS2 hS3
  have hO1 := hO.below b1
  have hre := h.below b1
  have hrm : Re w1 (some ⟨g, 0, none⟩) (l ++ [markE]) := hO1.re
  have hmk : w1.cell? ⟨g, N * 6 + 5, none⟩ = some (.string ⟨#[109, 97, 114, 107]⟩) := by
    obtain ⟨b, off, e, _, _, _, _, _, q5⟩ := hrm.cells (k := l.length) (x := markE) (by simp)
    simp only [Option.some.injEq, Addr.mk.injEq] at e
    obtain ⟨rfl, rfl, _⟩ := e
    rw [hN]
    simpa using q5
  have hrl : Re w1 (some ⟨g, 0, none⟩) l := by have := hrm.take l.length; simpa using this
  have k29 : ∀ W, Below w1.heap.size w1 W → Calls Tryz.prog 29 #[vv k n (some ⟨g, 0, none⟩) N cm, vv k n ao N c] W fun e w' => e = .returned (.bool true) ∧ Below W.heap.size W w' := fun W hW => by
    have := refSame_any k n k n (c := cm) (d := c) (hrl.below hW) (hre.below hW) (by omega) (by omega)
    rw [show sameV k n l k n l = true by simp [sameV], ← hN] at this
    exact this
  have hsl := fun W => sliceE_hi (ao := some ⟨g, 0, none⟩) (n := N) (c := cm) (j := M) (by simp at hS3; omega) (fun a ha => by cases ha; rfl) W
  have wz : IntKind.i64.wrap ((N : Int) + 1) = (M : Int) := by rw [IntKind.wrap_i64]; omega
  have zM : (N : Int) < (M : Int) := by omega
  have k64 : ∀ W, Below w1.heap.size w1 W → Calls Tryz.prog 64 #[vv k n (some ⟨g, 0, none⟩) N cm] W fun e w' => (∃ v, e = .returned v) ∧ Only (fun j => j = g) W w' := fun W hW => spoil_any k n ((hS1.below b1).below hW) (by simp at hS2; omega) (by omega)
  have x0 : w1.cell? ⟨X, 0, none⟩ = some (.int .i64 k) := (cell_of_row _ _ 0 _ 46 (0, 0) m0).trans rfl
  have x1 : w1.cell? ⟨X, 1, none⟩ = some (.int .i64 n) := (cell_of_row _ _ 1 _ 46 (0, 0) m0).trans rfl
  have x2 : w1.cell? ⟨X, 2, none⟩ = some (.slice (some ⟨g, 0, none⟩) N cm) := (cell_of_row _ _ 2 _ 46 (0, 0) m0).trans rfl
  have y0 : w1.cell? ⟨Y, 0, none⟩ = some (.int .i64 k) := (cell_of_row _ _ 0 _ 46 (0, 0) m1).trans rfl
  have y1 : w1.cell? ⟨Y, 1, none⟩ = some (.int .i64 n) := (cell_of_row _ _ 1 _ 46 (0, 0) m1).trans rfl
  have y2 : w1.cell? ⟨Y, 2, none⟩ = some (.slice ao N c) := (cell_of_row _ _ 2 _ 46 (0, 0) m1).trans rfl
  have hS : w1.cell? ⟨X, 0, none⟩ = some (.int .i64 k) ∧ w1.cell? ⟨X, 1, none⟩ = some (.int .i64 n) ∧ w1.cell? ⟨X, 2, none⟩ = some (.slice (some ⟨g, 0, none⟩) N cm) ∧ w1.cell? ⟨Y, 0, none⟩ = some (.int .i64 k) ∧ w1.cell? ⟨Y, 1, none⟩ = some (.int .i64 n) ∧ w1.cell? ⟨Y, 2, none⟩ = some (.slice ao N c) ∧ w1.cell? ⟨g, N * 6 + 5, none⟩ = some (.string ⟨#[109, 97, 114, 107]⟩) ∧ Below w1.heap.size w1 w1 := ⟨x0, x1, x2, y0, y1, y2, hmk, Below.refl _ _⟩
  rw [← hN] at hl ⊢
  have H := hide (And.intro hw1 (And.intro hX (And.intro hY b1)))
  clear hw1 hX hY b1 m0 m1 hre h hN hO hO1 hrm hrl hS1 hS2 hS3 hM x0 x1 x2 y0 y1 y2 hmk
  go_enter Tryz.func28, Tryz.ntmps28
  go_upto_region 1 with fail
  obtain ⟨t1, t2, t3, -⟩ := H.out
  rw [← t1, ← t3, ← t2]
  clear t1 t2 t3
  have qd : w1.drew.cell? ⟨X, 0, none⟩ = some (.int .i64 k) ∧ w1.drew.cell? ⟨X, 1, none⟩ = some (.int .i64 n) ∧ w1.drew.cell? ⟨X, 2, none⟩ = some (.slice (some ⟨g, 0, none⟩) N cm) ∧ w1.drew.cell? ⟨Y, 0, none⟩ = some (.int .i64 k) ∧ w1.drew.cell? ⟨Y, 1, none⟩ = some (.int .i64 n) ∧ w1.drew.cell? ⟨Y, 2, none⟩ = some (.slice ao N c) ∧ w1.drew.cell? ⟨g, N * 6 + 5, none⟩ = some (.string ⟨#[109, 97, 114, 107]⟩) ∧ Below w1.heap.size w1 w1.drew := ⟨cell_stays hS.1 (drew_below w1), cell_stays hS.2.1 (drew_below w1), cell_stays hS.2.2.1 (drew_below w1), cell_stays hS.2.2.2.1 (drew_below w1), cell_stays hS.2.2.2.2.1 (drew_below w1), cell_stays hS.2.2.2.2.2.1 (drew_below w1), cell_stays hS.2.2.2.2.2.2.1 (drew_below w1), nextB hS.2.2.2.2.2.2.2 (drew_below w1)⟩
  refine wp_region_held_drew (S := (fun w' => w'.cell? ⟨X, 0, none⟩ = some (.int .i64 k) ∧ w'.cell? ⟨X, 1, none⟩ = some (.int .i64 n) ∧ w'.cell? ⟨X, 2, none⟩ = some (.slice (some ⟨g, 0, none⟩) N cm) ∧ w'.cell? ⟨Y, 0, none⟩ = some (.int .i64 k) ∧ w'.cell? ⟨Y, 1, none⟩ = some (.int .i64 n) ∧ w'.cell? ⟨Y, 2, none⟩ = some (.slice ao N c) ∧ w'.cell? ⟨g, N * 6 + 5, none⟩ = some (.string ⟨#[109, 97, 114, 107]⟩) ∧ Below w1.heap.size w1 w')) (by kernel_rfl) qd (fun hHeld => ?_)
  try dsimp only at hHeld
  refine take_op (i := 0) (d := 6) (OP := Op.load 46 (Operand.tmp 2)) (T := 46) (v := ?vzz1) rfl rfl rfl rfl (by kernel_rfl) (by kernel_rfl) (by kernel_rfl) (fun _ _ _ h => h) (by rfl) ?hzz1 hHeld ?rzz1
  case hzz1 => (intro w' hSw; (try dsimp only at hSw); go_simp <;> with_reducible rfl)
  try simp only [Act.put, List.setIfInBounds_toArray, List.set_cons_zero, List.set_cons_succ]
  refine take_op (i := 1) (d := 7) (OP := Op.load 46 (Operand.tmp 3)) (T := 46) (v := ?vzz2) rfl rfl rfl rfl (by kernel_rfl) (by kernel_rfl) (by kernel_rfl) (fun _ _ _ h => h) (by rfl) ?hzz2 hHeld ?rzz2
  case hzz2 => (intro w' hSw; (try dsimp only at hSw); go_simp <;> with_reducible rfl)
  try simp only [Act.put, List.setIfInBounds_toArray, List.set_cons_zero, List.set_cons_succ]
  refine call_op (i := 2) (d := 8) (OP := Op.call { callee := Callee.value (Operand.func 29), args := #[Operand.tmp 6, Operand.tmp 7], argTypes := #[46, 46] }) (T := 4) (f := 29) (args := #[vv k n (some ⟨g, 0, none⟩) N cm, vv k n ao N c]) rfl rfl rfl rfl (by kernel_rfl) (by rfl) (by go_simp) ?_
  refine (k29 _ hHeld.2.2.2.2.2.2.2).mono ?_
  rintro e z0 ⟨rfl, bz0⟩
  have qz0 : z0.cell? ⟨X, 0, none⟩ = some (.int .i64 k) ∧ z0.cell? ⟨X, 1, none⟩ = some (.int .i64 n) ∧ z0.cell? ⟨X, 2, none⟩ = some (.slice (some ⟨g, 0, none⟩) N cm) ∧ z0.cell? ⟨Y, 0, none⟩ = some (.int .i64 k) ∧ z0.cell? ⟨Y, 1, none⟩ = some (.int .i64 n) ∧ z0.cell? ⟨Y, 2, none⟩ = some (.slice ao N c) ∧ z0.cell? ⟨g, N * 6 + 5, none⟩ = some (.string ⟨#[109, 97, 114, 107]⟩) ∧ Below w1.heap.size w1 z0 := ⟨cell_stays hHeld.1 bz0, cell_stays hHeld.2.1 bz0, cell_stays hHeld.2.2.1 bz0, cell_stays hHeld.2.2.2.1 bz0, cell_stays hHeld.2.2.2.2.1 bz0, cell_stays hHeld.2.2.2.2.2.1 bz0, cell_stays hHeld.2.2.2.2.2.2.1 bz0, nextB hHeld.2.2.2.2.2.2.2 bz0⟩
  refine ⟨_, rfl, qz0, ?_⟩
  replace hHeld := qz0
  try simp only [Act.put, List.setIfInBounds_toArray, List.set_cons_zero, List.set_cons_succ]
  refine take_op (i := 3) (d := 9) (OP := Op.move (Operand.tmp 8)) (T := 4) (v := ?vzz3) rfl rfl rfl rfl (by kernel_rfl) (by kernel_rfl) (by kernel_rfl) (fun _ _ _ h => h) (by rfl) ?hzz3 hHeld ?rzz3
  case hzz3 => (intro w' hSw; (try dsimp only at hSw); go_simp <;> with_reducible rfl)
  try simp only [Act.put, List.setIfInBounds_toArray, List.set_cons_zero, List.set_cons_succ]
  refine take_op (i := 4) (d := 10) (OP := Op.fieldAddr 46 (Operand.tmp 2) 2) (T := 0) (v := ?vzz4) rfl rfl rfl rfl (by kernel_rfl) (by kernel_rfl) (by kernel_rfl) (fun _ _ _ h => h) (by rfl) ?hzz4 hHeld ?rzz4
  case hzz4 => (intro w' hSw; (try dsimp only at hSw); go_simp <;> with_reducible rfl)
  try simp only [Act.put, List.setIfInBounds_toArray, List.set_cons_zero, List.set_cons_succ]
  refine take_op (i := 5) (d := 11) (OP := Op.load 44 (Operand.tmp 10)) (T := 44) (v := ?vzz5) rfl rfl rfl rfl (by kernel_rfl) (by kernel_rfl) (by kernel_rfl) (fun _ _ _ h => h) (by rfl) ?hzz5 hHeld ?rzz5
  case hzz5 => (intro w' hSw; (try dsimp only at hSw); go_simp <;> with_reducible rfl)
  try simp only [Act.put, List.setIfInBounds_toArray, List.set_cons_zero, List.set_cons_succ]
  refine take_op (i := 6) (d := 12) (OP := Op.fieldAddr 46 (Operand.tmp 3) 2) (T := 0) (v := ?vzz6) rfl rfl rfl rfl (by kernel_rfl) (by kernel_rfl) (by kernel_rfl) (fun _ _ _ h => h) (by rfl) ?hzz6 hHeld ?rzz6
  case hzz6 => (intro w' hSw; (try dsimp only at hSw); go_simp <;> with_reducible rfl)
  try simp only [Act.put, List.setIfInBounds_toArray, List.set_cons_zero, List.set_cons_succ]
  refine take_op (i := 7) (d := 13) (OP := Op.load 44 (Operand.tmp 12)) (T := 44) (v := ?vzz7) rfl rfl rfl rfl (by kernel_rfl) (by kernel_rfl) (by kernel_rfl) (fun _ _ _ h => h) (by rfl) ?hzz7 hHeld ?rzz7
  case hzz7 => (intro w' hSw; (try dsimp only at hSw); go_simp <;> with_reducible rfl)
  try simp only [Act.put, List.setIfInBounds_toArray, List.set_cons_zero, List.set_cons_succ]
  refine take_op (i := 8) (d := 14) (OP := Op.call { callee := Callee.builtin Builtin.len, args := #[Operand.tmp 13], argTypes := #[44] }) (T := 3) (v := ?vzz8) rfl rfl rfl rfl (by kernel_rfl) (by kernel_rfl) (by kernel_rfl) (fun _ _ _ h => h) (by rfl) ?hzz8 hHeld ?rzz8
  case hzz8 => (intro w' hSw; (try dsimp only at hSw); go_simp <;> with_reducible rfl)
  try simp only [Act.put, List.setIfInBounds_toArray, List.set_cons_zero, List.set_cons_succ]
  refine take_op (i := 9) (d := 15) (OP := Op.binOp BinOp.add 3 (Operand.tmp 14) (Operand.const (Value.int IntKind.i64 1)) 3) (T := 3) (v := ?vzz9) rfl rfl rfl rfl (by kernel_rfl) (by kernel_rfl) (by kernel_rfl) (fun _ _ _ h => h) (by rfl) ?hzz9 hHeld ?rzz9
  case hzz9 => (intro w' hSw; (try dsimp only at hSw); go_simp <;> with_reducible rfl)
  try simp only [Act.put, List.setIfInBounds_toArray, List.set_cons_zero, List.set_cons_succ]
  refine take_op (i := 10) (d := 16) (OP := Op.slice 44 (Operand.tmp 11) none (some (Operand.tmp 15)) none) (T := 44) (v := .slice (some ⟨g, 0, none⟩) M cm) rfl rfl rfl rfl (by kernel_rfl) (by kernel_rfl) (by kernel_rfl) (fun _ _ _ h => h) (by rfl) ?hzz10 hHeld ?rzz10
  case hzz10 => (intro w' hSw; exact exec_slE rfl rfl (hsl w'))
  try simp only [Act.put, List.setIfInBounds_toArray, List.set_cons_zero, List.set_cons_succ]
  refine take_op (i := 11) (d := 17) (OP := Op.fieldAddr 46 (Operand.tmp 3) 2) (T := 0) (v := ?vzz11) rfl rfl rfl rfl (by kernel_rfl) (by kernel_rfl) (by kernel_rfl) (fun _ _ _ h => h) (by rfl) ?hzz11 hHeld ?rzz11
  case hzz11 => (intro w' hSw; (try dsimp only at hSw); go_simp <;> with_reducible rfl)
  try simp only [Act.put, List.setIfInBounds_toArray, List.set_cons_zero, List.set_cons_succ]
  refine take_op (i := 12) (d := 18) (OP := Op.load 44 (Operand.tmp 17)) (T := 44) (v := ?vzz12) rfl rfl rfl rfl (by kernel_rfl) (by kernel_rfl) (by kernel_rfl) (fun _ _ _ h => h) (by rfl) ?hzz12 hHeld ?rzz12
  case hzz12 => (intro w' hSw; (try dsimp only at hSw); go_simp <;> with_reducible rfl)
  try simp only [Act.put, List.setIfInBounds_toArray, List.set_cons_zero, List.set_cons_succ]
  refine take_op (i := 13) (d := 19) (OP := Op.call { callee := Callee.builtin Builtin.len, args := #[Operand.tmp 18], argTypes := #[44] }) (T := 3) (v := ?vzz13) rfl rfl rfl rfl (by kernel_rfl) (by kernel_rfl) (by kernel_rfl) (fun _ _ _ h => h) (by rfl) ?hzz13 hHeld ?rzz13
  case hzz13 => (intro w' hSw; (try dsimp only at hSw); go_simp <;> with_reducible rfl)
  try simp only [Act.put, List.setIfInBounds_toArray, List.set_cons_zero, List.set_cons_succ]
  refine take_op (i := 14) (d := 20) (OP := Op.indexAddr 44 (Operand.tmp 16) (Operand.tmp 19)) (T := 0) (v := ?vzz14) rfl rfl rfl rfl (by kernel_rfl) (by kernel_rfl) (by kernel_rfl) (fun _ _ _ h => h) (by rfl) ?hzz14 hHeld ?rzz14
  case hzz14 => (intro w' hSw; (try dsimp only at hSw); go_simp <;> with_reducible rfl)
  try simp only [Act.put, List.setIfInBounds_toArray, List.set_cons_zero, List.set_cons_succ]
  refine take_op (i := 15) (d := 21) (OP := Op.fieldAddr 77 (Operand.tmp 20) 1) (T := 0) (v := ?vzz15) rfl rfl rfl rfl (by kernel_rfl) (by kernel_rfl) (by kernel_rfl) (fun _ _ _ h => h) (by rfl) ?hzz15 hHeld ?rzz15
  case hzz15 => (intro w' hSw; (try dsimp only at hSw); go_simp <;> with_reducible rfl)
  try simp only [Act.put, List.setIfInBounds_toArray, List.set_cons_zero, List.set_cons_succ]
  refine take_op (i := 16) (d := 22) (OP := Op.load 9 (Operand.tmp 21)) (T := 9) (v := ?vzz16) rfl rfl rfl rfl (by kernel_rfl) (by kernel_rfl) (by kernel_rfl) (fun _ _ _ h => h) (by rfl) ?hzz16 hHeld ?rzz16
  case hzz16 => (intro w' hSw; (try dsimp only at hSw); go_simp <;> with_reducible rfl)
  try simp only [Act.put, List.setIfInBounds_toArray, List.set_cons_zero, List.set_cons_succ]
  refine take_op (i := 17) (d := 23) (OP := Op.binOp BinOp.eql 9 (Operand.tmp 22) (Operand.const (Value.string { data := #[109, 97, 114, 107] })) 9) (T := 4) (v := .bool true) rfl rfl rfl rfl (by kernel_rfl) (by kernel_rfl) (by kernel_rfl) (fun _ _ _ h => h) (by rfl) ?hzz17 hHeld ?rzz17
  case hzz17 => (intro w' hSw; (try dsimp only at hSw); go_simp <;> (first | with_reducible rfl | (simp; done)))
  try simp only [Act.put, List.setIfInBounds_toArray, List.set_cons_zero, List.set_cons_succ]
  refine take_op (i := 18) (d := 24) (OP := Op.pick (Operand.tmp 9) (Operand.tmp 23) (Operand.const (Value.bool false))) (T := 4) (v := ?vzz18) rfl rfl rfl rfl (by kernel_rfl) (by kernel_rfl) (by kernel_rfl) (fun _ _ _ h => h) (by rfl) ?hzz18 hHeld ?rzz18
  case hzz18 => (intro w' hSw; (try dsimp only at hSw); go_simp <;> with_reducible rfl)
  try simp only [Act.put, List.setIfInBounds_toArray, List.set_cons_zero, List.set_cons_succ]
  refine take_op (i := 19) (d := 5) (OP := Op.assign (Operand.tmp 24)) (T := 4) (v := ?vzz19) rfl rfl rfl rfl (by kernel_rfl) (by kernel_rfl) (by kernel_rfl) (fun _ _ _ h => h) (by rfl) ?hzz19 hHeld ?rzz19
  case hzz19 => (intro w' hSw; (try dsimp only at hSw); go_simp <;> with_reducible rfl)
  try simp only [Act.put, List.setIfInBounds_toArray, List.set_cons_zero, List.set_cons_succ]
  refine wpAnyH_done (by kernel_rfl) ?_ _
  obtain ⟨x0, x1, x2, -, -, -, -, hz⟩ := hHeld
  have HE := hide hz
  clear hz qd hS
  go_wp2_with (go_at_call 64; refine (k64 _ HE.out).mono ?_; rintro e w3 ⟨⟨v3, rfl⟩, o3⟩; have H3 := hide o3; clear o3; try dsimp only)
  go_ret
  exact ⟨rfl, (below_only (nextB H.out.2.2.2 HE.out)).next H3.out⟩
end Go.Proofs.YtkdgageljgfgoaaGreatDoor
