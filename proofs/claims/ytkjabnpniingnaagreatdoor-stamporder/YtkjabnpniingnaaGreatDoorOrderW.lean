/-
  ORDERW: StampOrder's walk.
-/
import Derived.Test.YtkjabnpniingnaaGreatDoorTheory6
import Derived.Test.YtkjabnpniingnaaGreatDoorParse5
import Derived.Test.YtkjabnpniingnaaGreatDoorEqs6
import Derived.Test.YtkjabnpniingnaaGreatDoorPutC
import Derived.Test.YtkjabnpniingnaaGreatDoorKnown
import Derived.Deep.DeepCutAuto
import Derived.Deep.CutBlock
import Derived.BigCall
import Derived.BigGuard
import Derived.BigGuardPart
import Derived.BigRegion
namespace Go.Proofs.YtkjabnpniingnaaGreatDoor
open Go.RowKit Go.Shelf
set_option linter.unusedSimpArgs false

theorem keptB {w w' : World} {p : Nat} {o : Obj} (hb : Below w.heap.size w w') (h : w.heap[p]? = some o) : w'.heap[p]? = some o := (hb.block _ (Array.getElem?_eq_some_iff.1 h).1).trans h
theorem exec_load27 {ev : Operand → Value} {x : Operand} {T : TypeId} {w : World} {b : Nat} {g r n i : Int} {l : ByteArray} (hx : ev x = .pointer (some ⟨b, 0, none⟩)) (h : w.heap[b]? = some (.cells #[.int .i64 g, .int .i64 r, .string l, .int .i64 n, .int .i64 i] 27)) :
    (execOp ev { dst := none, op := .load 27 x, type := T, pos := "", after := #[], guard := none }).run Tryz.prog w = .ok (.value (sv g r l n i)) w := by
  obtain ⟨c0, c1, c2, c3, c4, _, _, _, _, _⟩ := blk5 h
  unfold execOp
  simp only [hx]
  go_simp
theorem exec_eqv {ev : Operand → Value} {x y : Operand} {T : TypeId} {w : World} {g r n i g' r' n' i' : Int} {l l' : ByteArray} {q : Bool} (hx : ev x = sv g r l n i) (hy : ev y = sv g' r' l' n' i') (h : ∀ W, (binOp .eql 27 (sv g r l n i) (sv g' r' l' n' i')).run Tryz.prog W = .ok (.bool q) W) :
    (execOp ev { dst := none, op := .binOp .eql 27 x y 27, type := T, pos := "", after := #[], guard := none }).run Tryz.prog w = .ok (.value (.bool q)) w := by
  have h2 := h w
  unfold execOp
  simp only [hx, hy]
  go_simp
theorem exec_neqv {ev : Operand → Value} {x y : Operand} {T : TypeId} {w : World} {g r n i g' r' n' i' : Int} {l l' : ByteArray} {q : Bool} (hx : ev x = sv g r l n i) (hy : ev y = sv g' r' l' n' i') (h : ∀ W, (binOp .neq 27 (sv g r l n i) (sv g' r' l' n' i')).run Tryz.prog W = .ok (.bool q) W) :
    (execOp ev { dst := none, op := .binOp .neq 27 x y 27, type := T, pos := "", after := #[], guard := none }).run Tryz.prog w = .ok (.value (.bool q)) w := by
  have h2 := h w
  unfold execOp
  simp only [hx, hy]
  go_simp
/-- Three stamps, each in a block of its own. -/
def OI (w wd : World) (g r : Int) (l : ByteArray) (n x g' r' : Int) (l' : ByteArray) (n' x' g2 r2 : Int) (l2 : ByteArray) (n2 x2 : Int) : Prop := wd.heap[w.heap.size]? = some (.cells #[.int .i64 g, .int .i64 r, .string l, .int .i64 n, .int .i64 x] 27) ∧ wd.heap[w.heap.size + 1]? = some (.cells #[.int .i64 g', .int .i64 r', .string l', .int .i64 n', .int .i64 x'] 27) ∧ wd.heap[w.heap.size + 1 + 1]? = some (.cells #[.int .i64 g2, .int .i64 r2, .string l2, .int .i64 n2, .int .i64 x2] 27)
theorem OI.below {w wd w' : World} {g r n x g' r' n' x' g2 r2 n2 x2 : Int} {l l' l2 : ByteArray} (h : OI w wd g r l n x g' r' l' n' x' g2 r2 l2 n2 x2) (hb : Below wd.heap.size wd w') : OI w w' g r l n x g' r' l' n' x' g2 r2 l2 n2 x2 := ⟨keptB hb h.1, keptB hb h.2.1, keptB hb h.2.2⟩
theorem OI.set {w : World} {a b : World} {g r n x g' r' n' x' g2 r2 n2 x2 : Int} {l l' l2 : ByteArray} (h : OI w a g r l n x g' r' l' n' x' g2 r2 l2 n2 x2) (hb : Below a.heap.size a b) : OI w b g r l n x g' r' l' n' x' g2 r2 l2 n2 x2 := h.below hb
/-- What the second part keeps. -/
def BI (w wd : World) (a11 a13 : Option Addr) (X Y : List Int) (g r : Int) (l : ByteArray) (n x g' r' : Int) (l' : ByteArray) (n' x' g2 r2 : Int) (l2 : ByteArray) (n2 x2 : Int) : Prop := OI w wd g r l n x g' r' l' n' x' g2 r2 l2 n2 x2 ∧ Below w.heap.size w wd ∧ Rd wd a11 X ∧ Rd wd a13 Y
theorem BI.below {w wd w' : World} {a11 a13 : Option Addr} {X Y : List Int} {g r n x g' r' n' x' g2 r2 n2 x2 : Int} {l l' l2 : ByteArray} (h : BI w wd a11 a13 X Y g r l n x g' r' l' n' x' g2 r2 l2 n2 x2) (hb : Below wd.heap.size wd w') : BI w w' a11 a13 X Y g r l n x g' r' l' n' x' g2 r2 l2 n2 x2 := ⟨h.1.below hb, h.2.1.trans (hb.mono h.2.1.size), h.2.2.1.below hb, h.2.2.2.below hb⟩
theorem stL_bytes {g r n x : Int} {l : ByteArray} : ∀ y ∈ stL g r l n x, 0 ≤ y ∧ y ≤ 255 := by
  intro y hy
  unfold stL nmL brL at hy
  simp only [List.mem_append] at hy
  have hi : ∀ z ∈ ints l.data.toList, 0 ≤ z ∧ z ≤ 255 := fun z hz => by
    unfold ints at hz
    rw [List.mem_map] at hz
    obtain ⟨u, _, rfl⟩ := hz
    have := u.toNat_lt
    omega
  rcases hy with (h | ((h | h | h) | h)) | h
  · exact Plain.numL_bytes _ y h
  · exact Plain.numL_bytes _ y h
  · exact Plain.numL_bytes _ y h
  · exact hi y h
  · exact Plain.numL_bytes _ y h
  · exact Plain.numL_bytes _ y h
theorem RdL.below {w w' : World} {R : Nat} {l : List Int} (h : RdL w R l) (hb : Below w.heap.size w w') : RdL w' R l := by
  obtain ⟨ao, cap, hh⟩ := h
  exact ⟨ao, cap, keptB hb hh⟩
theorem strL_inj {X Y : List Int} (hx : ∀ y ∈ X, 0 ≤ y ∧ y ≤ 255) (hy : ∀ y ∈ Y, 0 ≤ y ∧ y ≤ 255) (h : (strOfNums X).data.toList = (strOfNums Y).data.toList) : X = Y := by
  induction X generalizing Y with
  | nil =>
    cases Y with
    | nil => rfl
    | cons b Y => rw [show (strOfNums (b :: Y)).data.toList = U (b :: Y) from rfl, U_cons] at h; simp [strOfNums] at h
  | cons a X ih =>
    cases Y with
    | nil => rw [show (strOfNums (a :: X)).data.toList = U (a :: X) from rfl, U_cons] at h; simp [strOfNums] at h
    | cons b Y =>
      rw [show (strOfNums (a :: X)).data.toList = U (a :: X) from rfl, show (strOfNums (b :: Y)).data.toList = U (b :: Y) from rfl, U_cons, U_cons] at h
      simp only [List.cons.injEq] at h
      have h1 := hx a (by simp)
      have h2 := hy b (by simp)
      have e := congrArg UInt8.toNat h.1
      rw [UInt8.toNat_ofNat', UInt8.toNat_ofNat'] at e
      have : a = b := by omega
      rw [this, ih (fun y q => hx y (by simp [q])) (fun y q => hy y (by simp [q])) h.2]
theorem stL_len {g r n x : Int} {l : ByteArray} (h : stampV g r l n x = true) : (stL g r l n x).length ≤ 1000100 := by
  have hb := S_bounds h
  have h1 := nmL_length r l n (by omega) (by omega) (by omega)
  have h2 := Plain.numL_ten g.toNat (by omega)
  have h3 := Plain.numL_ten x.toNat (by omega)
  unfold stL
  rw [List.length_append, List.length_append]
  omega
set_option maxHeartbeats 8000000 in
set_option maxRecDepth 100000 in
theorem order_walk (g r : Int) (l : ByteArray) (n x g' r' : Int) (l' : ByteArray) (n' x' g2 r2 : Int) (l2 : ByteArray) (n2 x2 : Int) (w : World) (hE : EnvE w) : Calls Tryz.prog 7 #[sv g r l n x, sv g' r' l' n' x', sv g2 r2 l2 n2 x2] w fun e w' => e = .returned (.bool true) ∧ Below w.heap.size w w' := by
  have hb : Below w.heap.size w (((w.alloc (.cells #[.int .i64 g, .int .i64 r, .string l, .int .i64 n, .int .i64 x] 27)).alloc (.cells #[.int .i64 g', .int .i64 r', .string l', .int .i64 n', .int .i64 x'] 27)).alloc (.cells #[.int .i64 g2, .int .i64 r2, .string l2, .int .i64 n2, .int .i64 x2] 27)) := ((below_new w _).alloc (by simp) _).alloc (by simp; omega) _
  have hO : OI w (((w.alloc (.cells #[.int .i64 g, .int .i64 r, .string l, .int .i64 n, .int .i64 x] 27)).alloc (.cells #[.int .i64 g', .int .i64 r', .string l', .int .i64 n', .int .i64 x'] 27)).alloc (.cells #[.int .i64 g2, .int .i64 r2, .string l2, .int .i64 n2, .int .i64 x2] 27)) g r l n x g' r' l' n' x' g2 r2 l2 n2 x2 := by
    obtain ⟨q1, q2⟩ := new2 w (.cells #[.int .i64 g, .int .i64 r, .string l, .int .i64 n, .int .i64 x] 27) (.cells #[.int .i64 g', .int .i64 r', .string l', .int .i64 n', .int .i64 x'] 27)
    have s2 : ((w.alloc (.cells #[.int .i64 g, .int .i64 r, .string l, .int .i64 n, .int .i64 x] 27)).alloc (.cells #[.int .i64 g', .int .i64 r', .string l', .int .i64 n', .int .i64 x'] 27)).heap.size = w.heap.size + 1 + 1 := by simp
    have q3 := heap_alloc_new ((w.alloc (.cells #[.int .i64 g, .int .i64 r, .string l, .int .i64 n, .int .i64 x] 27)).alloc (.cells #[.int .i64 g', .int .i64 r', .string l', .int .i64 n', .int .i64 x'] 27)) (.cells #[.int .i64 g2, .int .i64 r2, .string l2, .int .i64 n2, .int .i64 x2] 27)
    rw [s2] at q3
    exact ⟨(Below.heap_alloc _ _ _ (by rw [s2]; omega)).trans q1, (Below.heap_alloc _ _ _ (by rw [s2]; omega)).trans q2, q3⟩
  have h9 : ∀ W, Below w.heap.size w W → Calls Tryz.prog 9 #[] W fun e w' => e = .returned (.bool true) ∧ Below W.heap.size W w' := fun W h => known_any W (hE.below h)
  have h26 := fun n W => num_any n W
  obtain ⟨ab, hab⟩ : ∃ ab, ab = cmpS g r l n x g' r' l' n' x' := ⟨_, rfl⟩
  obtain ⟨bc, hbc⟩ : ∃ bc, bc = cmpS g' r' l' n' x' g2 r2 l2 n2 x2 := ⟨_, rfl⟩
  obtain ⟨ac, hac⟩ : ∃ ac, ac = cmpS g r l n x g2 r2 l2 n2 x2 := ⟨_, rfl⟩
  have cab : ∀ W, Calls Tryz.prog 50 #[sv g r l n x, sv g' r' l' n' x'] W fun e w' => e = .returned (.int .i64 ab) ∧ Below W.heap.size W w' := fun W => by rw [hab]; exact cmpS_any _ _ _ _ _ _ _ _ _ _ W
  have cba : ∀ W, Calls Tryz.prog 50 #[sv g' r' l' n' x', sv g r l n x] W fun e w' => e = .returned (.int .i64 (-ab)) ∧ Below W.heap.size W w' := fun W => by
    have := cmpS_any g' r' l' n' x' g r l n x W
    rw [cmpS_eq, ord_T.anti, ← cmpS_eq, ← hab] at this
    exact this
  have cbc : ∀ W, Calls Tryz.prog 50 #[sv g' r' l' n' x', sv g2 r2 l2 n2 x2] W fun e w' => e = .returned (.int .i64 bc) ∧ Below W.heap.size W w' := fun W => by rw [hbc]; exact cmpS_any _ _ _ _ _ _ _ _ _ _ W
  have cac : ∀ W, Calls Tryz.prog 50 #[sv g r l n x, sv g2 r2 l2 n2 x2] W fun e w' => e = .returned (.int .i64 ac) ∧ Below W.heap.size W w' := fun W => by rw [hac]; exact cmpS_any _ _ _ _ _ _ _ _ _ _ W
  obtain ⟨EQ, hEQd⟩ : ∃ EQ, EQ = (g == g' && (r == r' && l.toList == l'.toList && n == n') && x == x') := ⟨_, rfl⟩
  have hEQs : EQ = true ↔ (g, r, l, n, x) = (g', r', l', n', x') := by
    rw [hEQd]
    simp only [Bool.and_eq_true, beq_iff_eq, Prod.mk.injEq, ByteArray.toList_eq]
    constructor
    · rintro ⟨⟨h1, ⟨h2, h3⟩, h4⟩, h5⟩; exact ⟨h1, h2, ba_ext h3, h4, h5⟩
    · rintro ⟨h1, h2, h3, h4, h5⟩; exact ⟨⟨h1, ⟨h2, by rw [h3]⟩, h4⟩, h5⟩
  have hEQ : (ab == 0) = EQ := by
    rw [Bool.eq_iff_iff, hEQs, beq_iff_eq, hab, cmpS_eq]
    constructor
    · exact ord_T.eq _ _
    · intro h; rw [h]; exact ord_T.refl _
  have e27 : ∀ W, (binOp .eql 27 (sv g r l n x) (sv g' r' l' n' x')).run Tryz.prog W = .ok (.bool EQ) W := fun W => by rw [run_eq27, hEQd]
  have n27 : ∀ W, (binOp .neq 27 (sv g r l n x) (sv g r l n x)).run Tryz.prog W = .ok (.bool false) W := fun W => by
    rw [run_neq_struct, show (10000 : Nat) = 9996 + 4 from rfl, equalIn27]
    simp [Result.andThen]
  have rab : ab = -1 ∨ ab = 0 ∨ ab = 1 := by rw [hab, cmpS_eq]; exact ord_T.range _ _
  have rbc : bc = -1 ∨ bc = 0 ∨ bc = 1 := by rw [hbc, cmpS_eq]; exact ord_T.range _ _
  have rac : ac = -1 ∨ ac = 0 ∨ ac = 1 := by rw [hac, cmpS_eq]; exact ord_T.range _ _
  have gtr : ab ≤ 0 → bc ≤ 0 → ac ≤ 0 := by rw [hab, hbc, hac, cmpS_eq, cmpS_eq, cmpS_eq]; exact ord_T.le
  have gls : g < g' → ab = -1 := fun h => by rw [hab, cmpS_eq]; exact T_less h
  have nw1 : IntKind.i64.wrap ab = ab := by rw [IntKind.wrap_i64]; omega
  have HA := hide (And.intro hab hEQs)
  clear hbc hac hEQd hEQs hab
  have HR := hide (And.intro rab (And.intro rbc rac))
  clear rab rbc rac
  go_enter Tryz.func7, Tryz.ntmps7
  go_upto_region 3 with (go_at_call 9; refine (h9 _ hb).mono ?_; rintro e W1 ⟨rfl, b1⟩; have HO := hide ((hO.below b1).below (Below.refl _ W1).drew); have HD := hide ((hb.trans (b1.mono hb.size)).drew); clear b1; dsimp only)
  clear hb hO
  go_cut [75] (fun v75 wd => v75 = .bool false ∧ Hid (OI w wd g r l n x g' r' l' n' x' g2 r2 l2 n2 x2 ∧ Below w.heap.size w wd))
  case first =>
    as_aux_lemma =>
      have hS : W1.drew.heap[w.heap.size]? = some (.cells #[.int .i64 g, .int .i64 r, .string l, .int .i64 n, .int .i64 x] 27) ∧ W1.drew.heap[w.heap.size + 1]? = some (.cells #[.int .i64 g', .int .i64 r', .string l', .int .i64 n', .int .i64 x'] 27) ∧ W1.drew.heap[w.heap.size + 1 + 1]? = some (.cells #[.int .i64 g2, .int .i64 r2, .string l2, .int .i64 n2, .int .i64 x2] 27) := HO.out
      clear h9 h26 HA HO
      by_cases hle1 : ab ≤ 0
      · by_cases hle2 : bc ≤ 0
        · have hle3 : ¬ (0 < ac) := by have := gtr hle1 hle2; omega
          clear gtr
          by_cases hg : g < g'
          · have hm1 : (ab != -1) = false := by rw [gls hg]; rfl
            clear gls
            refine wp_region_held_drew (S := (fun w' => w'.heap[w.heap.size]? = some (.cells #[.int .i64 g, .int .i64 r, .string l, .int .i64 n, .int .i64 x] 27) ∧ w'.heap[w.heap.size + 1]? = some (.cells #[.int .i64 g', .int .i64 r', .string l', .int .i64 n', .int .i64 x'] 27) ∧ w'.heap[w.heap.size + 1 + 1]? = some (.cells #[.int .i64 g2, .int .i64 r2, .string l2, .int .i64 n2, .int .i64 x2] 27))) (by kernel_rfl) (by exact hS) (fun hHeld => ?_)
            try dsimp only at hHeld
            refine take_op (i := 0) (d := 27) (OP := Op.load 27 (Operand.tmp 3)) (T := 27) (v := sv g r l n x) rfl rfl rfl rfl (by kernel_rfl) (by kernel_rfl) (by kernel_rfl) (fun _ _ _ h => h) (by rfl) (fun w' hSw => exec_load27 rfl hSw.1) hHeld ?_
            try simp only [Act.put, List.setIfInBounds_toArray, List.set_cons_zero, List.set_cons_succ]
            refine take_op (i := 1) (d := 28) (OP := Op.load 27 (Operand.tmp 4)) (T := 27) (v := sv g' r' l' n' x') rfl rfl rfl rfl (by kernel_rfl) (by kernel_rfl) (by kernel_rfl) (fun _ _ _ h => h) (by rfl) (fun w' hSw => exec_load27 rfl hSw.2.1) hHeld ?_
            try simp only [Act.put, List.setIfInBounds_toArray, List.set_cons_zero, List.set_cons_succ]
            refine take_op (i := 3) (d := 30) (OP := Op.load 27 (Operand.tmp 4)) (T := 27) (v := sv g' r' l' n' x') rfl rfl rfl rfl (by kernel_rfl) (by kernel_rfl) (by kernel_rfl) (fun _ _ _ h => h) (by rfl) (fun w' hSw => exec_load27 rfl hSw.2.1) hHeld ?_
            try simp only [Act.put, List.setIfInBounds_toArray, List.set_cons_zero, List.set_cons_succ]
            refine take_op (i := 4) (d := 31) (OP := Op.load 27 (Operand.tmp 3)) (T := 27) (v := sv g r l n x) rfl rfl rfl rfl (by kernel_rfl) (by kernel_rfl) (by kernel_rfl) (fun _ _ _ h => h) (by rfl) (fun w' hSw => exec_load27 rfl hSw.1) hHeld ?_
            try simp only [Act.put, List.setIfInBounds_toArray, List.set_cons_zero, List.set_cons_succ]
            refine call_op (i := 2) (d := 29) (OP := Op.call { callee := Callee.value (Operand.func 50), args := #[Operand.tmp 27, Operand.tmp 28], argTypes := #[27, 27] }) (T := 3) (f := 50) (args := #[sv g r l n x, sv g' r' l' n' x']) rfl rfl rfl rfl (by kernel_rfl) (by rfl) (by go_simp) ?_
            refine (cab _).mono ?_
            rintro e q22 ⟨rfl, bq22⟩
            have hSq22 : q22.heap[w.heap.size]? = some (.cells #[.int .i64 g, .int .i64 r, .string l, .int .i64 n, .int .i64 x] 27) ∧ q22.heap[w.heap.size + 1]? = some (.cells #[.int .i64 g', .int .i64 r', .string l', .int .i64 n', .int .i64 x'] 27) ∧ q22.heap[w.heap.size + 1 + 1]? = some (.cells #[.int .i64 g2, .int .i64 r2, .string l2, .int .i64 n2, .int .i64 x2] 27) := ⟨keptB bq22 hHeld.1, keptB bq22 hHeld.2.1, keptB bq22 hHeld.2.2⟩
            replace HD := hide (HD.out.trans (bq22.mono HD.out.size))
            clear bq22
            refine ⟨_, rfl, hSq22, ?_⟩
            replace hHeld := hSq22
            try simp only [Act.put, List.setIfInBounds_toArray, List.set_cons_zero, List.set_cons_succ]
            refine call_op (i := 5) (d := 32) (OP := Op.call { callee := Callee.value (Operand.func 50), args := #[Operand.tmp 30, Operand.tmp 31], argTypes := #[27, 27] }) (T := 3) (f := 50) (args := #[sv g' r' l' n' x', sv g r l n x]) rfl rfl rfl rfl (by kernel_rfl) (by rfl) (by go_simp) ?_
            refine (cba _).mono ?_
            rintro e q23 ⟨rfl, bq23⟩
            have hSq23 : q23.heap[w.heap.size]? = some (.cells #[.int .i64 g, .int .i64 r, .string l, .int .i64 n, .int .i64 x] 27) ∧ q23.heap[w.heap.size + 1]? = some (.cells #[.int .i64 g', .int .i64 r', .string l', .int .i64 n', .int .i64 x'] 27) ∧ q23.heap[w.heap.size + 1 + 1]? = some (.cells #[.int .i64 g2, .int .i64 r2, .string l2, .int .i64 n2, .int .i64 x2] 27) := ⟨keptB bq23 hHeld.1, keptB bq23 hHeld.2.1, keptB bq23 hHeld.2.2⟩
            replace HD := hide (HD.out.trans (bq23.mono HD.out.size))
            clear bq23
            refine ⟨_, rfl, hSq23, ?_⟩
            replace hHeld := hSq23
            try simp only [Act.put, List.setIfInBounds_toArray, List.set_cons_zero, List.set_cons_succ]
            refine take_op (i := 6) (d := 33) (OP := Op.unOp UnOp.neg 3 (Operand.tmp 32)) (T := 3) (v := ?vy82x) rfl rfl rfl rfl (by kernel_rfl) (by kernel_rfl) (by kernel_rfl) (fun _ _ _ h => h) (by rfl) ?hy82x hHeld ?ry82x
            case hy82x => (intro w' hSw; (try dsimp only at hSw); go_simp <;> with_reducible rfl)
            try simp only [Act.put, List.setIfInBounds_toArray, List.set_cons_zero, List.set_cons_succ]
            refine take_op (i := 7) (d := 34) (OP := Op.binOp BinOp.neq 3 (Operand.tmp 29) (Operand.tmp 33) 3) (T := 4) (v := ?vy83x) rfl rfl rfl rfl (by kernel_rfl) (by kernel_rfl) (by kernel_rfl) (fun _ _ _ h => h) (by rfl) ?hy83x hHeld ?ry83x
            case hy83x => (intro w' hSw; (try dsimp only at hSw); go_simp <;> with_reducible rfl)
            try simp only [Act.put, List.setIfInBounds_toArray, List.set_cons_zero, List.set_cons_succ]
            refine take_op (i := 8) (d := 35) (OP := Op.move (Operand.tmp 34)) (T := 4) (v := ?vy84x) rfl rfl rfl rfl (by kernel_rfl) (by kernel_rfl) (by kernel_rfl) (fun _ _ _ h => h) (by rfl) ?hy84x hHeld ?ry84x
            case hy84x => (intro w' hSw; (try dsimp only at hSw); go_simp <;> with_reducible rfl)
            try simp only [Act.put, List.setIfInBounds_toArray, List.set_cons_zero, List.set_cons_succ]
            refine take_op (i := 9) (d := 36) (OP := Op.load 27 (Operand.tmp 3)) (T := 27) (v := sv g r l n x) rfl rfl rfl rfl (by kernel_rfl) (by kernel_rfl) (by kernel_rfl) (fun _ _ _ h => h) (by rfl) (fun w' hSw => exec_load27 rfl hSw.1) hHeld ?_
            try simp only [Act.put, List.setIfInBounds_toArray, List.set_cons_zero, List.set_cons_succ]
            refine take_op (i := 10) (d := 37) (OP := Op.load 27 (Operand.tmp 4)) (T := 27) (v := sv g' r' l' n' x') rfl rfl rfl rfl (by kernel_rfl) (by kernel_rfl) (by kernel_rfl) (fun _ _ _ h => h) (by rfl) (fun w' hSw => exec_load27 rfl hSw.2.1) hHeld ?_
            try simp only [Act.put, List.setIfInBounds_toArray, List.set_cons_zero, List.set_cons_succ]
            refine take_op (i := 13) (d := 40) (OP := Op.load 27 (Operand.tmp 3)) (T := 27) (v := sv g r l n x) rfl rfl rfl rfl (by kernel_rfl) (by kernel_rfl) (by kernel_rfl) (fun _ _ _ h => h) (by rfl) (fun w' hSw => exec_load27 rfl hSw.1) hHeld ?_
            try simp only [Act.put, List.setIfInBounds_toArray, List.set_cons_zero, List.set_cons_succ]
            refine take_op (i := 14) (d := 41) (OP := Op.load 27 (Operand.tmp 4)) (T := 27) (v := sv g' r' l' n' x') rfl rfl rfl rfl (by kernel_rfl) (by kernel_rfl) (by kernel_rfl) (fun _ _ _ h => h) (by rfl) (fun w' hSw => exec_load27 rfl hSw.2.1) hHeld ?_
            try simp only [Act.put, List.setIfInBounds_toArray, List.set_cons_zero, List.set_cons_succ]
            refine take_op (i := 15) (d := 42) (OP := Op.binOp BinOp.eql 27 (Operand.tmp 40) (Operand.tmp 41) 27) (T := 4) (v := .bool EQ) rfl rfl rfl rfl (by kernel_rfl) (by kernel_rfl) (by kernel_rfl) (fun _ _ _ h => h) (by rfl) (fun w' _ => exec_eqv rfl rfl e27) hHeld ?_
            try simp only [Act.put, List.setIfInBounds_toArray, List.set_cons_zero, List.set_cons_succ]
            refine call_op (i := 11) (d := 38) (OP := Op.call { callee := Callee.value (Operand.func 50), args := #[Operand.tmp 36, Operand.tmp 37], argTypes := #[27, 27] }) (T := 3) (f := 50) (args := #[sv g r l n x, sv g' r' l' n' x']) rfl rfl rfl rfl (by kernel_rfl) (by rfl) (by go_simp) ?_
            refine (cab _).mono ?_
            rintro e q24 ⟨rfl, bq24⟩
            have hSq24 : q24.heap[w.heap.size]? = some (.cells #[.int .i64 g, .int .i64 r, .string l, .int .i64 n, .int .i64 x] 27) ∧ q24.heap[w.heap.size + 1]? = some (.cells #[.int .i64 g', .int .i64 r', .string l', .int .i64 n', .int .i64 x'] 27) ∧ q24.heap[w.heap.size + 1 + 1]? = some (.cells #[.int .i64 g2, .int .i64 r2, .string l2, .int .i64 n2, .int .i64 x2] 27) := ⟨keptB bq24 hHeld.1, keptB bq24 hHeld.2.1, keptB bq24 hHeld.2.2⟩
            replace HD := hide (HD.out.trans (bq24.mono HD.out.size))
            clear bq24
            refine ⟨_, rfl, hSq24, ?_⟩
            replace hHeld := hSq24
            try simp only [Act.put, List.setIfInBounds_toArray, List.set_cons_zero, List.set_cons_succ]
            refine take_op (i := 12) (d := 39) (OP := Op.binOp BinOp.eql 3 (Operand.tmp 38) (Operand.const (Value.int IntKind.i64 0)) 3) (T := 4) (v := ?vy85x) rfl rfl rfl rfl (by kernel_rfl) (by kernel_rfl) (by kernel_rfl) (fun _ _ _ h => h) (by rfl) ?hy85x hHeld ?ry85x
            case hy85x => (intro w' hSw; (try dsimp only at hSw); go_simp <;> with_reducible rfl)
            try simp only [Act.put, List.setIfInBounds_toArray, List.set_cons_zero, List.set_cons_succ]
            refine take_op (i := 16) (d := 43) (OP := Op.binOp BinOp.neq 4 (Operand.tmp 39) (Operand.tmp 42) 4) (T := 4) (v := ?vy86x) rfl rfl rfl rfl (by kernel_rfl) (by kernel_rfl) (by kernel_rfl) (fun _ _ _ h => h) (by rfl) ?hy86x hHeld ?ry86x
            case hy86x => (intro w' hSw; (try dsimp only at hSw); go_simp <;> with_reducible rfl)
            try simp only [Act.put, List.setIfInBounds_toArray, List.set_cons_zero, List.set_cons_succ]
            refine take_op (i := 17) (d := 44) (OP := Op.pick (Operand.tmp 35) (Operand.const (Value.bool true)) (Operand.tmp 43)) (T := 4) (v := ?vy87x) rfl rfl rfl rfl (by kernel_rfl) (by kernel_rfl) (by kernel_rfl) (fun _ _ _ h => h) (by rfl) ?hy87x hHeld ?ry87x
            case hy87x => (intro w' hSw; (try dsimp only at hSw); go_simp <;> with_reducible rfl)
            try simp only [Act.put, List.setIfInBounds_toArray, List.set_cons_zero, List.set_cons_succ]
            refine take_op (i := 18) (d := 45) (OP := Op.move (Operand.tmp 44)) (T := 4) (v := ?vy88x) rfl rfl rfl rfl (by kernel_rfl) (by kernel_rfl) (by kernel_rfl) (fun _ _ _ h => h) (by rfl) ?hy88x hHeld ?ry88x
            case hy88x => (intro w' hSw; (try dsimp only at hSw); go_simp <;> with_reducible rfl)
            try simp only [Act.put, List.setIfInBounds_toArray, List.set_cons_zero, List.set_cons_succ]
            refine take_op (i := 19) (d := 46) (OP := Op.load 27 (Operand.tmp 3)) (T := 27) (v := sv g r l n x) rfl rfl rfl rfl (by kernel_rfl) (by kernel_rfl) (by kernel_rfl) (fun _ _ _ h => h) (by rfl) (fun w' hSw => exec_load27 rfl hSw.1) hHeld ?_
            try simp only [Act.put, List.setIfInBounds_toArray, List.set_cons_zero, List.set_cons_succ]
            refine take_op (i := 20) (d := 47) (OP := Op.load 27 (Operand.tmp 4)) (T := 27) (v := sv g' r' l' n' x') rfl rfl rfl rfl (by kernel_rfl) (by kernel_rfl) (by kernel_rfl) (fun _ _ _ h => h) (by rfl) (fun w' hSw => exec_load27 rfl hSw.2.1) hHeld ?_
            try simp only [Act.put, List.setIfInBounds_toArray, List.set_cons_zero, List.set_cons_succ]
            refine call_op (i := 21) (d := 48) (OP := Op.call { callee := Callee.value (Operand.func 50), args := #[Operand.tmp 46, Operand.tmp 47], argTypes := #[27, 27] }) (T := 3) (f := 50) (args := #[sv g r l n x, sv g' r' l' n' x']) rfl rfl rfl rfl (by kernel_rfl) (by rfl) (by go_simp) ?_
            refine (cab _).mono ?_
            rintro e q25 ⟨rfl, bq25⟩
            have hSq25 : q25.heap[w.heap.size]? = some (.cells #[.int .i64 g, .int .i64 r, .string l, .int .i64 n, .int .i64 x] 27) ∧ q25.heap[w.heap.size + 1]? = some (.cells #[.int .i64 g', .int .i64 r', .string l', .int .i64 n', .int .i64 x'] 27) ∧ q25.heap[w.heap.size + 1 + 1]? = some (.cells #[.int .i64 g2, .int .i64 r2, .string l2, .int .i64 n2, .int .i64 x2] 27) := ⟨keptB bq25 hHeld.1, keptB bq25 hHeld.2.1, keptB bq25 hHeld.2.2⟩
            replace HD := hide (HD.out.trans (bq25.mono HD.out.size))
            clear bq25
            refine ⟨_, rfl, hSq25, ?_⟩
            replace hHeld := hSq25
            try simp only [Act.put, List.setIfInBounds_toArray, List.set_cons_zero, List.set_cons_succ]
            refine take_op (i := 22) (d := 49) (OP := Op.binOp BinOp.leq 3 (Operand.tmp 48) (Operand.const (Value.int IntKind.i64 0)) 3) (T := 4) (v := ?vy89x) rfl rfl rfl rfl (by kernel_rfl) (by kernel_rfl) (by kernel_rfl) (fun _ _ _ h => h) (by rfl) ?hy89x hHeld ?ry89x
            case hy89x => (intro w' hSw; (try dsimp only at hSw); go_simp <;> with_reducible rfl)
            try simp only [Act.put, List.setIfInBounds_toArray, List.set_cons_zero, List.set_cons_succ]
            refine take_op (i := 23) (d := 50) (OP := Op.move (Operand.tmp 49)) (T := 4) (v := ?vy90x) rfl rfl rfl rfl (by kernel_rfl) (by kernel_rfl) (by kernel_rfl) (fun _ _ _ h => h) (by rfl) ?hy90x hHeld ?ry90x
            case hy90x => (intro w' hSw; (try dsimp only at hSw); go_simp <;> with_reducible rfl)
            try simp only [Act.put, List.setIfInBounds_toArray, List.set_cons_zero, List.set_cons_succ]
            refine take_op (i := 24) (d := 51) (OP := Op.load 27 (Operand.tmp 4)) (T := 27) (v := sv g' r' l' n' x') rfl rfl rfl rfl (by kernel_rfl) (by kernel_rfl) (by kernel_rfl) (fun _ _ _ h => h) (by rfl) (fun w' hSw => exec_load27 rfl hSw.2.1) hHeld ?_
            try simp only [Act.put, List.setIfInBounds_toArray, List.set_cons_zero, List.set_cons_succ]
            refine take_op (i := 25) (d := 52) (OP := Op.load 27 (Operand.tmp 5)) (T := 27) (v := sv g2 r2 l2 n2 x2) rfl rfl rfl rfl (by kernel_rfl) (by kernel_rfl) (by kernel_rfl) (fun _ _ _ h => h) (by rfl) (fun w' hSw => exec_load27 rfl hSw.2.2) hHeld ?_
            try simp only [Act.put, List.setIfInBounds_toArray, List.set_cons_zero, List.set_cons_succ]
            refine call_op (i := 26) (d := 53) (OP := Op.call { callee := Callee.value (Operand.func 50), args := #[Operand.tmp 51, Operand.tmp 52], argTypes := #[27, 27] }) (T := 3) (f := 50) (args := #[sv g' r' l' n' x', sv g2 r2 l2 n2 x2]) rfl rfl rfl rfl (by kernel_rfl) (by rfl) (by go_simp) ?_
            refine (cbc _).mono ?_
            rintro e q26 ⟨rfl, bq26⟩
            have hSq26 : q26.heap[w.heap.size]? = some (.cells #[.int .i64 g, .int .i64 r, .string l, .int .i64 n, .int .i64 x] 27) ∧ q26.heap[w.heap.size + 1]? = some (.cells #[.int .i64 g', .int .i64 r', .string l', .int .i64 n', .int .i64 x'] 27) ∧ q26.heap[w.heap.size + 1 + 1]? = some (.cells #[.int .i64 g2, .int .i64 r2, .string l2, .int .i64 n2, .int .i64 x2] 27) := ⟨keptB bq26 hHeld.1, keptB bq26 hHeld.2.1, keptB bq26 hHeld.2.2⟩
            replace HD := hide (HD.out.trans (bq26.mono HD.out.size))
            clear bq26
            refine ⟨_, rfl, hSq26, ?_⟩
            replace hHeld := hSq26
            try simp only [Act.put, List.setIfInBounds_toArray, List.set_cons_zero, List.set_cons_succ]
            refine take_op (i := 27) (d := 54) (OP := Op.binOp BinOp.leq 3 (Operand.tmp 53) (Operand.const (Value.int IntKind.i64 0)) 3) (T := 4) (v := ?vy91x) rfl rfl rfl rfl (by kernel_rfl) (by kernel_rfl) (by kernel_rfl) (fun _ _ _ h => h) (by rfl) ?hy91x hHeld ?ry91x
            case hy91x => (intro w' hSw; (try dsimp only at hSw); go_simp <;> with_reducible rfl)
            try simp only [Act.put, List.setIfInBounds_toArray, List.set_cons_zero, List.set_cons_succ]
            refine take_op (i := 28) (d := 55) (OP := Op.pick (Operand.tmp 50) (Operand.tmp 54) (Operand.const (Value.bool false))) (T := 4) (v := ?vy92x) rfl rfl rfl rfl (by kernel_rfl) (by kernel_rfl) (by kernel_rfl) (fun _ _ _ h => h) (by rfl) ?hy92x hHeld ?ry92x
            case hy92x => (intro w' hSw; (try dsimp only at hSw); go_simp <;> with_reducible rfl)
            try simp only [Act.put, List.setIfInBounds_toArray, List.set_cons_zero, List.set_cons_succ]
            refine take_op (i := 29) (d := 56) (OP := Op.move (Operand.tmp 55)) (T := 4) (v := ?vy93x) rfl rfl rfl rfl (by kernel_rfl) (by kernel_rfl) (by kernel_rfl) (fun _ _ _ h => h) (by rfl) ?hy93x hHeld ?ry93x
            case hy93x => (intro w' hSw; (try dsimp only at hSw); go_simp <;> with_reducible rfl)
            try simp only [Act.put, List.setIfInBounds_toArray, List.set_cons_zero, List.set_cons_succ]
            refine take_op (i := 30) (d := 57) (OP := Op.load 27 (Operand.tmp 3)) (T := 27) (v := sv g r l n x) rfl rfl rfl rfl (by kernel_rfl) (by kernel_rfl) (by kernel_rfl) (fun _ _ _ h => h) (by rfl) (fun w' hSw => exec_load27 rfl hSw.1) hHeld ?_
            try simp only [Act.put, List.setIfInBounds_toArray, List.set_cons_zero, List.set_cons_succ]
            refine take_op (i := 31) (d := 58) (OP := Op.load 27 (Operand.tmp 5)) (T := 27) (v := sv g2 r2 l2 n2 x2) rfl rfl rfl rfl (by kernel_rfl) (by kernel_rfl) (by kernel_rfl) (fun _ _ _ h => h) (by rfl) (fun w' hSw => exec_load27 rfl hSw.2.2) hHeld ?_
            try simp only [Act.put, List.setIfInBounds_toArray, List.set_cons_zero, List.set_cons_succ]
            refine call_op (i := 32) (d := 59) (OP := Op.call { callee := Callee.value (Operand.func 50), args := #[Operand.tmp 57, Operand.tmp 58], argTypes := #[27, 27] }) (T := 3) (f := 50) (args := #[sv g r l n x, sv g2 r2 l2 n2 x2]) rfl rfl rfl rfl (by kernel_rfl) (by rfl) (by go_simp) ?_
            refine (cac _).mono ?_
            rintro e q27 ⟨rfl, bq27⟩
            have hSq27 : q27.heap[w.heap.size]? = some (.cells #[.int .i64 g, .int .i64 r, .string l, .int .i64 n, .int .i64 x] 27) ∧ q27.heap[w.heap.size + 1]? = some (.cells #[.int .i64 g', .int .i64 r', .string l', .int .i64 n', .int .i64 x'] 27) ∧ q27.heap[w.heap.size + 1 + 1]? = some (.cells #[.int .i64 g2, .int .i64 r2, .string l2, .int .i64 n2, .int .i64 x2] 27) := ⟨keptB bq27 hHeld.1, keptB bq27 hHeld.2.1, keptB bq27 hHeld.2.2⟩
            replace HD := hide (HD.out.trans (bq27.mono HD.out.size))
            clear bq27
            refine ⟨_, rfl, hSq27, ?_⟩
            replace hHeld := hSq27
            try simp only [Act.put, List.setIfInBounds_toArray, List.set_cons_zero, List.set_cons_succ]
            refine take_op (i := 33) (d := 60) (OP := Op.binOp BinOp.gtr 3 (Operand.tmp 59) (Operand.const (Value.int IntKind.i64 0)) 3) (T := 4) (v := ?vy94x) rfl rfl rfl rfl (by kernel_rfl) (by kernel_rfl) (by kernel_rfl) (fun _ _ _ h => h) (by rfl) ?hy94x hHeld ?ry94x
            case hy94x => (intro w' hSw; (try dsimp only at hSw); go_simp <;> with_reducible rfl)
            try simp only [Act.put, List.setIfInBounds_toArray, List.set_cons_zero, List.set_cons_succ]
            refine take_op (i := 34) (d := 61) (OP := Op.pick (Operand.tmp 56) (Operand.tmp 60) (Operand.const (Value.bool false))) (T := 4) (v := ?vy95x) rfl rfl rfl rfl (by kernel_rfl) (by kernel_rfl) (by kernel_rfl) (fun _ _ _ h => h) (by rfl) ?hy95x hHeld ?ry95x
            case hy95x => (intro w' hSw; (try dsimp only at hSw); go_simp <;> with_reducible rfl)
            try simp only [Act.put, List.setIfInBounds_toArray, List.set_cons_zero, List.set_cons_succ]
            refine take_op (i := 35) (d := 62) (OP := Op.pick (Operand.tmp 45) (Operand.const (Value.bool true)) (Operand.tmp 61)) (T := 4) (v := ?vy96x) rfl rfl rfl rfl (by kernel_rfl) (by kernel_rfl) (by kernel_rfl) (fun _ _ _ h => h) (by rfl) ?hy96x hHeld ?ry96x
            case hy96x => (intro w' hSw; (try dsimp only at hSw); go_simp <;> with_reducible rfl)
            try simp only [Act.put, List.setIfInBounds_toArray, List.set_cons_zero, List.set_cons_succ]
            refine take_op (i := 36) (d := 63) (OP := Op.move (Operand.tmp 62)) (T := 4) (v := ?vy97x) rfl rfl rfl rfl (by kernel_rfl) (by kernel_rfl) (by kernel_rfl) (fun _ _ _ h => h) (by rfl) ?hy97x hHeld ?ry97x
            case hy97x => (intro w' hSw; (try dsimp only at hSw); go_simp <;> with_reducible rfl)
            try simp only [Act.put, List.setIfInBounds_toArray, List.set_cons_zero, List.set_cons_succ]
            refine take_op (i := 37) (d := 64) (OP := Op.fieldAddr 27 (Operand.tmp 3) 0) (T := 0) (v := .pointer (some ⟨w.heap.size, 0, none⟩)) rfl rfl rfl rfl (by kernel_rfl) (by kernel_rfl) (by kernel_rfl) (fun _ _ _ h => h) (by rfl) (fun w' _ => exec_fa27_0 rfl) hHeld ?_
            try simp only [Act.put, List.setIfInBounds_toArray, List.set_cons_zero, List.set_cons_succ]
            refine take_op (i := 38) (d := 65) (OP := Op.load 2 (Operand.tmp 64)) (T := 2) (v := .int .i64 g) rfl rfl rfl rfl (by kernel_rfl) (by kernel_rfl) (by kernel_rfl) (fun _ _ _ h => h) (by rfl) (fun w' hSw => exec_load2 rfl (blk5 hSw.1).1) hHeld ?_
            try simp only [Act.put, List.setIfInBounds_toArray, List.set_cons_zero, List.set_cons_succ]
            refine take_op (i := 39) (d := 66) (OP := Op.fieldAddr 27 (Operand.tmp 4) 0) (T := 0) (v := .pointer (some ⟨w.heap.size + 1, 0, none⟩)) rfl rfl rfl rfl (by kernel_rfl) (by kernel_rfl) (by kernel_rfl) (fun _ _ _ h => h) (by rfl) (fun w' _ => exec_fa27_0 rfl) hHeld ?_
            try simp only [Act.put, List.setIfInBounds_toArray, List.set_cons_zero, List.set_cons_succ]
            refine take_op (i := 40) (d := 67) (OP := Op.load 2 (Operand.tmp 66)) (T := 2) (v := .int .i64 g') rfl rfl rfl rfl (by kernel_rfl) (by kernel_rfl) (by kernel_rfl) (fun _ _ _ h => h) (by rfl) (fun w' hSw => exec_load2 rfl (blk5 hSw.2.1).1) hHeld ?_
            try simp only [Act.put, List.setIfInBounds_toArray, List.set_cons_zero, List.set_cons_succ]
            refine take_op (i := 41) (d := 68) (OP := Op.binOp BinOp.lss 2 (Operand.tmp 65) (Operand.tmp 67) 2) (T := 4) (v := ?vy98x) rfl rfl rfl rfl (by kernel_rfl) (by kernel_rfl) (by kernel_rfl) (fun _ _ _ h => h) (by rfl) ?hy98x hHeld ?ry98x
            case hy98x => (intro w' hSw; (try dsimp only at hSw); go_simp <;> with_reducible rfl)
            try simp only [Act.put, List.setIfInBounds_toArray, List.set_cons_zero, List.set_cons_succ]
            refine take_op (i := 42) (d := 69) (OP := Op.move (Operand.tmp 68)) (T := 4) (v := ?vy99x) rfl rfl rfl rfl (by kernel_rfl) (by kernel_rfl) (by kernel_rfl) (fun _ _ _ h => h) (by rfl) ?hy99x hHeld ?ry99x
            case hy99x => (intro w' hSw; (try dsimp only at hSw); go_simp <;> with_reducible rfl)
            try simp only [Act.put, List.setIfInBounds_toArray, List.set_cons_zero, List.set_cons_succ]
            refine take_op (i := 43) (d := 70) (OP := Op.load 27 (Operand.tmp 3)) (T := 27) (v := sv g r l n x) rfl rfl rfl rfl (by kernel_rfl) (by kernel_rfl) (by kernel_rfl) (fun _ _ _ h => h) (by rfl) (fun w' hSw => exec_load27 rfl hSw.1) hHeld ?_
            try simp only [Act.put, List.setIfInBounds_toArray, List.set_cons_zero, List.set_cons_succ]
            refine take_op (i := 44) (d := 71) (OP := Op.load 27 (Operand.tmp 4)) (T := 27) (v := sv g' r' l' n' x') rfl rfl rfl rfl (by kernel_rfl) (by kernel_rfl) (by kernel_rfl) (fun _ _ _ h => h) (by rfl) (fun w' hSw => exec_load27 rfl hSw.2.1) hHeld ?_
            try simp only [Act.put, List.setIfInBounds_toArray, List.set_cons_zero, List.set_cons_succ]
            refine call_op (i := 45) (d := 72) (OP := Op.call { callee := Callee.value (Operand.func 50), args := #[Operand.tmp 70, Operand.tmp 71], argTypes := #[27, 27] }) (T := 3) (f := 50) (args := #[sv g r l n x, sv g' r' l' n' x']) rfl rfl rfl rfl (by kernel_rfl) (by rfl) (by go_simp) ?_
            refine (cab _).mono ?_
            rintro e q28 ⟨rfl, bq28⟩
            have hSq28 : q28.heap[w.heap.size]? = some (.cells #[.int .i64 g, .int .i64 r, .string l, .int .i64 n, .int .i64 x] 27) ∧ q28.heap[w.heap.size + 1]? = some (.cells #[.int .i64 g', .int .i64 r', .string l', .int .i64 n', .int .i64 x'] 27) ∧ q28.heap[w.heap.size + 1 + 1]? = some (.cells #[.int .i64 g2, .int .i64 r2, .string l2, .int .i64 n2, .int .i64 x2] 27) := ⟨keptB bq28 hHeld.1, keptB bq28 hHeld.2.1, keptB bq28 hHeld.2.2⟩
            replace HD := hide (HD.out.trans (bq28.mono HD.out.size))
            clear bq28
            refine ⟨_, rfl, hSq28, ?_⟩
            replace hHeld := hSq28
            try simp only [Act.put, List.setIfInBounds_toArray, List.set_cons_zero, List.set_cons_succ]
            refine take_op (i := 46) (d := 73) (OP := Op.binOp BinOp.neq 3 (Operand.tmp 72) (Operand.const (Value.int IntKind.i64 (-1))) 3) (T := 4) (v := ?vy100x) rfl rfl rfl rfl (by kernel_rfl) (by kernel_rfl) (by kernel_rfl) (fun _ _ _ h => h) (by rfl) ?hy100x hHeld ?ry100x
            case hy100x => (intro w' hSw; (try dsimp only at hSw); go_simp <;> with_reducible rfl)
            try simp only [Act.put, List.setIfInBounds_toArray, List.set_cons_zero, List.set_cons_succ]
            refine take_op (i := 47) (d := 74) (OP := Op.pick (Operand.tmp 69) (Operand.tmp 73) (Operand.const (Value.bool false))) (T := 4) (v := ?vy101x) rfl rfl rfl rfl (by kernel_rfl) (by kernel_rfl) (by kernel_rfl) (fun _ _ _ h => h) (by rfl) ?hy101x hHeld ?ry101x
            case hy101x => (intro w' hSw; (try dsimp only at hSw); go_simp <;> with_reducible rfl)
            try simp only [Act.put, List.setIfInBounds_toArray, List.set_cons_zero, List.set_cons_succ]
            refine take_op (i := 48) (d := 75) (OP := Op.pick (Operand.tmp 63) (Operand.const (Value.bool true)) (Operand.tmp 74)) (T := 4) (v := ?vy102x) rfl rfl rfl rfl (by kernel_rfl) (by kernel_rfl) (by kernel_rfl) (fun _ _ _ h => h) (by rfl) ?hy102x hHeld ?ry102x
            case hy102x => (intro w' hSw; (try dsimp only at hSw); go_simp <;> with_reducible rfl)
            try simp only [Act.put, List.setIfInBounds_toArray, List.set_cons_zero, List.set_cons_succ]
            refine wpAnyH_done (by kernel_rfl) ?_ _
            go_wp2
            go_meet
            exact ⟨rfl, hide ⟨hHeld, HD.out⟩⟩
          · clear gls
            refine wp_region_held_drew (S := (fun w' => w'.heap[w.heap.size]? = some (.cells #[.int .i64 g, .int .i64 r, .string l, .int .i64 n, .int .i64 x] 27) ∧ w'.heap[w.heap.size + 1]? = some (.cells #[.int .i64 g', .int .i64 r', .string l', .int .i64 n', .int .i64 x'] 27) ∧ w'.heap[w.heap.size + 1 + 1]? = some (.cells #[.int .i64 g2, .int .i64 r2, .string l2, .int .i64 n2, .int .i64 x2] 27))) (by kernel_rfl) (by exact hS) (fun hHeld => ?_)
            try dsimp only at hHeld
            refine take_op (i := 0) (d := 27) (OP := Op.load 27 (Operand.tmp 3)) (T := 27) (v := sv g r l n x) rfl rfl rfl rfl (by kernel_rfl) (by kernel_rfl) (by kernel_rfl) (fun _ _ _ h => h) (by rfl) (fun w' hSw => exec_load27 rfl hSw.1) hHeld ?_
            try simp only [Act.put, List.setIfInBounds_toArray, List.set_cons_zero, List.set_cons_succ]
            refine take_op (i := 1) (d := 28) (OP := Op.load 27 (Operand.tmp 4)) (T := 27) (v := sv g' r' l' n' x') rfl rfl rfl rfl (by kernel_rfl) (by kernel_rfl) (by kernel_rfl) (fun _ _ _ h => h) (by rfl) (fun w' hSw => exec_load27 rfl hSw.2.1) hHeld ?_
            try simp only [Act.put, List.setIfInBounds_toArray, List.set_cons_zero, List.set_cons_succ]
            refine take_op (i := 3) (d := 30) (OP := Op.load 27 (Operand.tmp 4)) (T := 27) (v := sv g' r' l' n' x') rfl rfl rfl rfl (by kernel_rfl) (by kernel_rfl) (by kernel_rfl) (fun _ _ _ h => h) (by rfl) (fun w' hSw => exec_load27 rfl hSw.2.1) hHeld ?_
            try simp only [Act.put, List.setIfInBounds_toArray, List.set_cons_zero, List.set_cons_succ]
            refine take_op (i := 4) (d := 31) (OP := Op.load 27 (Operand.tmp 3)) (T := 27) (v := sv g r l n x) rfl rfl rfl rfl (by kernel_rfl) (by kernel_rfl) (by kernel_rfl) (fun _ _ _ h => h) (by rfl) (fun w' hSw => exec_load27 rfl hSw.1) hHeld ?_
            try simp only [Act.put, List.setIfInBounds_toArray, List.set_cons_zero, List.set_cons_succ]
            refine call_op (i := 2) (d := 29) (OP := Op.call { callee := Callee.value (Operand.func 50), args := #[Operand.tmp 27, Operand.tmp 28], argTypes := #[27, 27] }) (T := 3) (f := 50) (args := #[sv g r l n x, sv g' r' l' n' x']) rfl rfl rfl rfl (by kernel_rfl) (by rfl) (by go_simp) ?_
            refine (cab _).mono ?_
            rintro e q29 ⟨rfl, bq29⟩
            have hSq29 : q29.heap[w.heap.size]? = some (.cells #[.int .i64 g, .int .i64 r, .string l, .int .i64 n, .int .i64 x] 27) ∧ q29.heap[w.heap.size + 1]? = some (.cells #[.int .i64 g', .int .i64 r', .string l', .int .i64 n', .int .i64 x'] 27) ∧ q29.heap[w.heap.size + 1 + 1]? = some (.cells #[.int .i64 g2, .int .i64 r2, .string l2, .int .i64 n2, .int .i64 x2] 27) := ⟨keptB bq29 hHeld.1, keptB bq29 hHeld.2.1, keptB bq29 hHeld.2.2⟩
            replace HD := hide (HD.out.trans (bq29.mono HD.out.size))
            clear bq29
            refine ⟨_, rfl, hSq29, ?_⟩
            replace hHeld := hSq29
            try simp only [Act.put, List.setIfInBounds_toArray, List.set_cons_zero, List.set_cons_succ]
            refine call_op (i := 5) (d := 32) (OP := Op.call { callee := Callee.value (Operand.func 50), args := #[Operand.tmp 30, Operand.tmp 31], argTypes := #[27, 27] }) (T := 3) (f := 50) (args := #[sv g' r' l' n' x', sv g r l n x]) rfl rfl rfl rfl (by kernel_rfl) (by rfl) (by go_simp) ?_
            refine (cba _).mono ?_
            rintro e q30 ⟨rfl, bq30⟩
            have hSq30 : q30.heap[w.heap.size]? = some (.cells #[.int .i64 g, .int .i64 r, .string l, .int .i64 n, .int .i64 x] 27) ∧ q30.heap[w.heap.size + 1]? = some (.cells #[.int .i64 g', .int .i64 r', .string l', .int .i64 n', .int .i64 x'] 27) ∧ q30.heap[w.heap.size + 1 + 1]? = some (.cells #[.int .i64 g2, .int .i64 r2, .string l2, .int .i64 n2, .int .i64 x2] 27) := ⟨keptB bq30 hHeld.1, keptB bq30 hHeld.2.1, keptB bq30 hHeld.2.2⟩
            replace HD := hide (HD.out.trans (bq30.mono HD.out.size))
            clear bq30
            refine ⟨_, rfl, hSq30, ?_⟩
            replace hHeld := hSq30
            try simp only [Act.put, List.setIfInBounds_toArray, List.set_cons_zero, List.set_cons_succ]
            refine take_op (i := 6) (d := 33) (OP := Op.unOp UnOp.neg 3 (Operand.tmp 32)) (T := 3) (v := ?vy103x) rfl rfl rfl rfl (by kernel_rfl) (by kernel_rfl) (by kernel_rfl) (fun _ _ _ h => h) (by rfl) ?hy103x hHeld ?ry103x
            case hy103x => (intro w' hSw; (try dsimp only at hSw); go_simp <;> with_reducible rfl)
            try simp only [Act.put, List.setIfInBounds_toArray, List.set_cons_zero, List.set_cons_succ]
            refine take_op (i := 7) (d := 34) (OP := Op.binOp BinOp.neq 3 (Operand.tmp 29) (Operand.tmp 33) 3) (T := 4) (v := ?vy104x) rfl rfl rfl rfl (by kernel_rfl) (by kernel_rfl) (by kernel_rfl) (fun _ _ _ h => h) (by rfl) ?hy104x hHeld ?ry104x
            case hy104x => (intro w' hSw; (try dsimp only at hSw); go_simp <;> with_reducible rfl)
            try simp only [Act.put, List.setIfInBounds_toArray, List.set_cons_zero, List.set_cons_succ]
            refine take_op (i := 8) (d := 35) (OP := Op.move (Operand.tmp 34)) (T := 4) (v := ?vy105x) rfl rfl rfl rfl (by kernel_rfl) (by kernel_rfl) (by kernel_rfl) (fun _ _ _ h => h) (by rfl) ?hy105x hHeld ?ry105x
            case hy105x => (intro w' hSw; (try dsimp only at hSw); go_simp <;> with_reducible rfl)
            try simp only [Act.put, List.setIfInBounds_toArray, List.set_cons_zero, List.set_cons_succ]
            refine take_op (i := 9) (d := 36) (OP := Op.load 27 (Operand.tmp 3)) (T := 27) (v := sv g r l n x) rfl rfl rfl rfl (by kernel_rfl) (by kernel_rfl) (by kernel_rfl) (fun _ _ _ h => h) (by rfl) (fun w' hSw => exec_load27 rfl hSw.1) hHeld ?_
            try simp only [Act.put, List.setIfInBounds_toArray, List.set_cons_zero, List.set_cons_succ]
            refine take_op (i := 10) (d := 37) (OP := Op.load 27 (Operand.tmp 4)) (T := 27) (v := sv g' r' l' n' x') rfl rfl rfl rfl (by kernel_rfl) (by kernel_rfl) (by kernel_rfl) (fun _ _ _ h => h) (by rfl) (fun w' hSw => exec_load27 rfl hSw.2.1) hHeld ?_
            try simp only [Act.put, List.setIfInBounds_toArray, List.set_cons_zero, List.set_cons_succ]
            refine take_op (i := 13) (d := 40) (OP := Op.load 27 (Operand.tmp 3)) (T := 27) (v := sv g r l n x) rfl rfl rfl rfl (by kernel_rfl) (by kernel_rfl) (by kernel_rfl) (fun _ _ _ h => h) (by rfl) (fun w' hSw => exec_load27 rfl hSw.1) hHeld ?_
            try simp only [Act.put, List.setIfInBounds_toArray, List.set_cons_zero, List.set_cons_succ]
            refine take_op (i := 14) (d := 41) (OP := Op.load 27 (Operand.tmp 4)) (T := 27) (v := sv g' r' l' n' x') rfl rfl rfl rfl (by kernel_rfl) (by kernel_rfl) (by kernel_rfl) (fun _ _ _ h => h) (by rfl) (fun w' hSw => exec_load27 rfl hSw.2.1) hHeld ?_
            try simp only [Act.put, List.setIfInBounds_toArray, List.set_cons_zero, List.set_cons_succ]
            refine take_op (i := 15) (d := 42) (OP := Op.binOp BinOp.eql 27 (Operand.tmp 40) (Operand.tmp 41) 27) (T := 4) (v := .bool EQ) rfl rfl rfl rfl (by kernel_rfl) (by kernel_rfl) (by kernel_rfl) (fun _ _ _ h => h) (by rfl) (fun w' _ => exec_eqv rfl rfl e27) hHeld ?_
            try simp only [Act.put, List.setIfInBounds_toArray, List.set_cons_zero, List.set_cons_succ]
            refine call_op (i := 11) (d := 38) (OP := Op.call { callee := Callee.value (Operand.func 50), args := #[Operand.tmp 36, Operand.tmp 37], argTypes := #[27, 27] }) (T := 3) (f := 50) (args := #[sv g r l n x, sv g' r' l' n' x']) rfl rfl rfl rfl (by kernel_rfl) (by rfl) (by go_simp) ?_
            refine (cab _).mono ?_
            rintro e q31 ⟨rfl, bq31⟩
            have hSq31 : q31.heap[w.heap.size]? = some (.cells #[.int .i64 g, .int .i64 r, .string l, .int .i64 n, .int .i64 x] 27) ∧ q31.heap[w.heap.size + 1]? = some (.cells #[.int .i64 g', .int .i64 r', .string l', .int .i64 n', .int .i64 x'] 27) ∧ q31.heap[w.heap.size + 1 + 1]? = some (.cells #[.int .i64 g2, .int .i64 r2, .string l2, .int .i64 n2, .int .i64 x2] 27) := ⟨keptB bq31 hHeld.1, keptB bq31 hHeld.2.1, keptB bq31 hHeld.2.2⟩
            replace HD := hide (HD.out.trans (bq31.mono HD.out.size))
            clear bq31
            refine ⟨_, rfl, hSq31, ?_⟩
            replace hHeld := hSq31
            try simp only [Act.put, List.setIfInBounds_toArray, List.set_cons_zero, List.set_cons_succ]
            refine take_op (i := 12) (d := 39) (OP := Op.binOp BinOp.eql 3 (Operand.tmp 38) (Operand.const (Value.int IntKind.i64 0)) 3) (T := 4) (v := ?vy106x) rfl rfl rfl rfl (by kernel_rfl) (by kernel_rfl) (by kernel_rfl) (fun _ _ _ h => h) (by rfl) ?hy106x hHeld ?ry106x
            case hy106x => (intro w' hSw; (try dsimp only at hSw); go_simp <;> with_reducible rfl)
            try simp only [Act.put, List.setIfInBounds_toArray, List.set_cons_zero, List.set_cons_succ]
            refine take_op (i := 16) (d := 43) (OP := Op.binOp BinOp.neq 4 (Operand.tmp 39) (Operand.tmp 42) 4) (T := 4) (v := ?vy107x) rfl rfl rfl rfl (by kernel_rfl) (by kernel_rfl) (by kernel_rfl) (fun _ _ _ h => h) (by rfl) ?hy107x hHeld ?ry107x
            case hy107x => (intro w' hSw; (try dsimp only at hSw); go_simp <;> with_reducible rfl)
            try simp only [Act.put, List.setIfInBounds_toArray, List.set_cons_zero, List.set_cons_succ]
            refine take_op (i := 17) (d := 44) (OP := Op.pick (Operand.tmp 35) (Operand.const (Value.bool true)) (Operand.tmp 43)) (T := 4) (v := ?vy108x) rfl rfl rfl rfl (by kernel_rfl) (by kernel_rfl) (by kernel_rfl) (fun _ _ _ h => h) (by rfl) ?hy108x hHeld ?ry108x
            case hy108x => (intro w' hSw; (try dsimp only at hSw); go_simp <;> with_reducible rfl)
            try simp only [Act.put, List.setIfInBounds_toArray, List.set_cons_zero, List.set_cons_succ]
            refine take_op (i := 18) (d := 45) (OP := Op.move (Operand.tmp 44)) (T := 4) (v := ?vy109x) rfl rfl rfl rfl (by kernel_rfl) (by kernel_rfl) (by kernel_rfl) (fun _ _ _ h => h) (by rfl) ?hy109x hHeld ?ry109x
            case hy109x => (intro w' hSw; (try dsimp only at hSw); go_simp <;> with_reducible rfl)
            try simp only [Act.put, List.setIfInBounds_toArray, List.set_cons_zero, List.set_cons_succ]
            refine take_op (i := 19) (d := 46) (OP := Op.load 27 (Operand.tmp 3)) (T := 27) (v := sv g r l n x) rfl rfl rfl rfl (by kernel_rfl) (by kernel_rfl) (by kernel_rfl) (fun _ _ _ h => h) (by rfl) (fun w' hSw => exec_load27 rfl hSw.1) hHeld ?_
            try simp only [Act.put, List.setIfInBounds_toArray, List.set_cons_zero, List.set_cons_succ]
            refine take_op (i := 20) (d := 47) (OP := Op.load 27 (Operand.tmp 4)) (T := 27) (v := sv g' r' l' n' x') rfl rfl rfl rfl (by kernel_rfl) (by kernel_rfl) (by kernel_rfl) (fun _ _ _ h => h) (by rfl) (fun w' hSw => exec_load27 rfl hSw.2.1) hHeld ?_
            try simp only [Act.put, List.setIfInBounds_toArray, List.set_cons_zero, List.set_cons_succ]
            refine call_op (i := 21) (d := 48) (OP := Op.call { callee := Callee.value (Operand.func 50), args := #[Operand.tmp 46, Operand.tmp 47], argTypes := #[27, 27] }) (T := 3) (f := 50) (args := #[sv g r l n x, sv g' r' l' n' x']) rfl rfl rfl rfl (by kernel_rfl) (by rfl) (by go_simp) ?_
            refine (cab _).mono ?_
            rintro e q32 ⟨rfl, bq32⟩
            have hSq32 : q32.heap[w.heap.size]? = some (.cells #[.int .i64 g, .int .i64 r, .string l, .int .i64 n, .int .i64 x] 27) ∧ q32.heap[w.heap.size + 1]? = some (.cells #[.int .i64 g', .int .i64 r', .string l', .int .i64 n', .int .i64 x'] 27) ∧ q32.heap[w.heap.size + 1 + 1]? = some (.cells #[.int .i64 g2, .int .i64 r2, .string l2, .int .i64 n2, .int .i64 x2] 27) := ⟨keptB bq32 hHeld.1, keptB bq32 hHeld.2.1, keptB bq32 hHeld.2.2⟩
            replace HD := hide (HD.out.trans (bq32.mono HD.out.size))
            clear bq32
            refine ⟨_, rfl, hSq32, ?_⟩
            replace hHeld := hSq32
            try simp only [Act.put, List.setIfInBounds_toArray, List.set_cons_zero, List.set_cons_succ]
            refine take_op (i := 22) (d := 49) (OP := Op.binOp BinOp.leq 3 (Operand.tmp 48) (Operand.const (Value.int IntKind.i64 0)) 3) (T := 4) (v := ?vy110x) rfl rfl rfl rfl (by kernel_rfl) (by kernel_rfl) (by kernel_rfl) (fun _ _ _ h => h) (by rfl) ?hy110x hHeld ?ry110x
            case hy110x => (intro w' hSw; (try dsimp only at hSw); go_simp <;> with_reducible rfl)
            try simp only [Act.put, List.setIfInBounds_toArray, List.set_cons_zero, List.set_cons_succ]
            refine take_op (i := 23) (d := 50) (OP := Op.move (Operand.tmp 49)) (T := 4) (v := ?vy111x) rfl rfl rfl rfl (by kernel_rfl) (by kernel_rfl) (by kernel_rfl) (fun _ _ _ h => h) (by rfl) ?hy111x hHeld ?ry111x
            case hy111x => (intro w' hSw; (try dsimp only at hSw); go_simp <;> with_reducible rfl)
            try simp only [Act.put, List.setIfInBounds_toArray, List.set_cons_zero, List.set_cons_succ]
            refine take_op (i := 24) (d := 51) (OP := Op.load 27 (Operand.tmp 4)) (T := 27) (v := sv g' r' l' n' x') rfl rfl rfl rfl (by kernel_rfl) (by kernel_rfl) (by kernel_rfl) (fun _ _ _ h => h) (by rfl) (fun w' hSw => exec_load27 rfl hSw.2.1) hHeld ?_
            try simp only [Act.put, List.setIfInBounds_toArray, List.set_cons_zero, List.set_cons_succ]
            refine take_op (i := 25) (d := 52) (OP := Op.load 27 (Operand.tmp 5)) (T := 27) (v := sv g2 r2 l2 n2 x2) rfl rfl rfl rfl (by kernel_rfl) (by kernel_rfl) (by kernel_rfl) (fun _ _ _ h => h) (by rfl) (fun w' hSw => exec_load27 rfl hSw.2.2) hHeld ?_
            try simp only [Act.put, List.setIfInBounds_toArray, List.set_cons_zero, List.set_cons_succ]
            refine call_op (i := 26) (d := 53) (OP := Op.call { callee := Callee.value (Operand.func 50), args := #[Operand.tmp 51, Operand.tmp 52], argTypes := #[27, 27] }) (T := 3) (f := 50) (args := #[sv g' r' l' n' x', sv g2 r2 l2 n2 x2]) rfl rfl rfl rfl (by kernel_rfl) (by rfl) (by go_simp) ?_
            refine (cbc _).mono ?_
            rintro e q33 ⟨rfl, bq33⟩
            have hSq33 : q33.heap[w.heap.size]? = some (.cells #[.int .i64 g, .int .i64 r, .string l, .int .i64 n, .int .i64 x] 27) ∧ q33.heap[w.heap.size + 1]? = some (.cells #[.int .i64 g', .int .i64 r', .string l', .int .i64 n', .int .i64 x'] 27) ∧ q33.heap[w.heap.size + 1 + 1]? = some (.cells #[.int .i64 g2, .int .i64 r2, .string l2, .int .i64 n2, .int .i64 x2] 27) := ⟨keptB bq33 hHeld.1, keptB bq33 hHeld.2.1, keptB bq33 hHeld.2.2⟩
            replace HD := hide (HD.out.trans (bq33.mono HD.out.size))
            clear bq33
            refine ⟨_, rfl, hSq33, ?_⟩
            replace hHeld := hSq33
            try simp only [Act.put, List.setIfInBounds_toArray, List.set_cons_zero, List.set_cons_succ]
            refine take_op (i := 27) (d := 54) (OP := Op.binOp BinOp.leq 3 (Operand.tmp 53) (Operand.const (Value.int IntKind.i64 0)) 3) (T := 4) (v := ?vy112x) rfl rfl rfl rfl (by kernel_rfl) (by kernel_rfl) (by kernel_rfl) (fun _ _ _ h => h) (by rfl) ?hy112x hHeld ?ry112x
            case hy112x => (intro w' hSw; (try dsimp only at hSw); go_simp <;> with_reducible rfl)
            try simp only [Act.put, List.setIfInBounds_toArray, List.set_cons_zero, List.set_cons_succ]
            refine take_op (i := 28) (d := 55) (OP := Op.pick (Operand.tmp 50) (Operand.tmp 54) (Operand.const (Value.bool false))) (T := 4) (v := ?vy113x) rfl rfl rfl rfl (by kernel_rfl) (by kernel_rfl) (by kernel_rfl) (fun _ _ _ h => h) (by rfl) ?hy113x hHeld ?ry113x
            case hy113x => (intro w' hSw; (try dsimp only at hSw); go_simp <;> with_reducible rfl)
            try simp only [Act.put, List.setIfInBounds_toArray, List.set_cons_zero, List.set_cons_succ]
            refine take_op (i := 29) (d := 56) (OP := Op.move (Operand.tmp 55)) (T := 4) (v := ?vy114x) rfl rfl rfl rfl (by kernel_rfl) (by kernel_rfl) (by kernel_rfl) (fun _ _ _ h => h) (by rfl) ?hy114x hHeld ?ry114x
            case hy114x => (intro w' hSw; (try dsimp only at hSw); go_simp <;> with_reducible rfl)
            try simp only [Act.put, List.setIfInBounds_toArray, List.set_cons_zero, List.set_cons_succ]
            refine take_op (i := 30) (d := 57) (OP := Op.load 27 (Operand.tmp 3)) (T := 27) (v := sv g r l n x) rfl rfl rfl rfl (by kernel_rfl) (by kernel_rfl) (by kernel_rfl) (fun _ _ _ h => h) (by rfl) (fun w' hSw => exec_load27 rfl hSw.1) hHeld ?_
            try simp only [Act.put, List.setIfInBounds_toArray, List.set_cons_zero, List.set_cons_succ]
            refine take_op (i := 31) (d := 58) (OP := Op.load 27 (Operand.tmp 5)) (T := 27) (v := sv g2 r2 l2 n2 x2) rfl rfl rfl rfl (by kernel_rfl) (by kernel_rfl) (by kernel_rfl) (fun _ _ _ h => h) (by rfl) (fun w' hSw => exec_load27 rfl hSw.2.2) hHeld ?_
            try simp only [Act.put, List.setIfInBounds_toArray, List.set_cons_zero, List.set_cons_succ]
            refine call_op (i := 32) (d := 59) (OP := Op.call { callee := Callee.value (Operand.func 50), args := #[Operand.tmp 57, Operand.tmp 58], argTypes := #[27, 27] }) (T := 3) (f := 50) (args := #[sv g r l n x, sv g2 r2 l2 n2 x2]) rfl rfl rfl rfl (by kernel_rfl) (by rfl) (by go_simp) ?_
            refine (cac _).mono ?_
            rintro e q34 ⟨rfl, bq34⟩
            have hSq34 : q34.heap[w.heap.size]? = some (.cells #[.int .i64 g, .int .i64 r, .string l, .int .i64 n, .int .i64 x] 27) ∧ q34.heap[w.heap.size + 1]? = some (.cells #[.int .i64 g', .int .i64 r', .string l', .int .i64 n', .int .i64 x'] 27) ∧ q34.heap[w.heap.size + 1 + 1]? = some (.cells #[.int .i64 g2, .int .i64 r2, .string l2, .int .i64 n2, .int .i64 x2] 27) := ⟨keptB bq34 hHeld.1, keptB bq34 hHeld.2.1, keptB bq34 hHeld.2.2⟩
            replace HD := hide (HD.out.trans (bq34.mono HD.out.size))
            clear bq34
            refine ⟨_, rfl, hSq34, ?_⟩
            replace hHeld := hSq34
            try simp only [Act.put, List.setIfInBounds_toArray, List.set_cons_zero, List.set_cons_succ]
            refine take_op (i := 33) (d := 60) (OP := Op.binOp BinOp.gtr 3 (Operand.tmp 59) (Operand.const (Value.int IntKind.i64 0)) 3) (T := 4) (v := ?vy115x) rfl rfl rfl rfl (by kernel_rfl) (by kernel_rfl) (by kernel_rfl) (fun _ _ _ h => h) (by rfl) ?hy115x hHeld ?ry115x
            case hy115x => (intro w' hSw; (try dsimp only at hSw); go_simp <;> with_reducible rfl)
            try simp only [Act.put, List.setIfInBounds_toArray, List.set_cons_zero, List.set_cons_succ]
            refine take_op (i := 34) (d := 61) (OP := Op.pick (Operand.tmp 56) (Operand.tmp 60) (Operand.const (Value.bool false))) (T := 4) (v := ?vy116x) rfl rfl rfl rfl (by kernel_rfl) (by kernel_rfl) (by kernel_rfl) (fun _ _ _ h => h) (by rfl) ?hy116x hHeld ?ry116x
            case hy116x => (intro w' hSw; (try dsimp only at hSw); go_simp <;> with_reducible rfl)
            try simp only [Act.put, List.setIfInBounds_toArray, List.set_cons_zero, List.set_cons_succ]
            refine take_op (i := 35) (d := 62) (OP := Op.pick (Operand.tmp 45) (Operand.const (Value.bool true)) (Operand.tmp 61)) (T := 4) (v := ?vy117x) rfl rfl rfl rfl (by kernel_rfl) (by kernel_rfl) (by kernel_rfl) (fun _ _ _ h => h) (by rfl) ?hy117x hHeld ?ry117x
            case hy117x => (intro w' hSw; (try dsimp only at hSw); go_simp <;> with_reducible rfl)
            try simp only [Act.put, List.setIfInBounds_toArray, List.set_cons_zero, List.set_cons_succ]
            refine take_op (i := 36) (d := 63) (OP := Op.move (Operand.tmp 62)) (T := 4) (v := ?vy118x) rfl rfl rfl rfl (by kernel_rfl) (by kernel_rfl) (by kernel_rfl) (fun _ _ _ h => h) (by rfl) ?hy118x hHeld ?ry118x
            case hy118x => (intro w' hSw; (try dsimp only at hSw); go_simp <;> with_reducible rfl)
            try simp only [Act.put, List.setIfInBounds_toArray, List.set_cons_zero, List.set_cons_succ]
            refine take_op (i := 37) (d := 64) (OP := Op.fieldAddr 27 (Operand.tmp 3) 0) (T := 0) (v := .pointer (some ⟨w.heap.size, 0, none⟩)) rfl rfl rfl rfl (by kernel_rfl) (by kernel_rfl) (by kernel_rfl) (fun _ _ _ h => h) (by rfl) (fun w' _ => exec_fa27_0 rfl) hHeld ?_
            try simp only [Act.put, List.setIfInBounds_toArray, List.set_cons_zero, List.set_cons_succ]
            refine take_op (i := 38) (d := 65) (OP := Op.load 2 (Operand.tmp 64)) (T := 2) (v := .int .i64 g) rfl rfl rfl rfl (by kernel_rfl) (by kernel_rfl) (by kernel_rfl) (fun _ _ _ h => h) (by rfl) (fun w' hSw => exec_load2 rfl (blk5 hSw.1).1) hHeld ?_
            try simp only [Act.put, List.setIfInBounds_toArray, List.set_cons_zero, List.set_cons_succ]
            refine take_op (i := 39) (d := 66) (OP := Op.fieldAddr 27 (Operand.tmp 4) 0) (T := 0) (v := .pointer (some ⟨w.heap.size + 1, 0, none⟩)) rfl rfl rfl rfl (by kernel_rfl) (by kernel_rfl) (by kernel_rfl) (fun _ _ _ h => h) (by rfl) (fun w' _ => exec_fa27_0 rfl) hHeld ?_
            try simp only [Act.put, List.setIfInBounds_toArray, List.set_cons_zero, List.set_cons_succ]
            refine take_op (i := 40) (d := 67) (OP := Op.load 2 (Operand.tmp 66)) (T := 2) (v := .int .i64 g') rfl rfl rfl rfl (by kernel_rfl) (by kernel_rfl) (by kernel_rfl) (fun _ _ _ h => h) (by rfl) (fun w' hSw => exec_load2 rfl (blk5 hSw.2.1).1) hHeld ?_
            try simp only [Act.put, List.setIfInBounds_toArray, List.set_cons_zero, List.set_cons_succ]
            refine take_op (i := 41) (d := 68) (OP := Op.binOp BinOp.lss 2 (Operand.tmp 65) (Operand.tmp 67) 2) (T := 4) (v := ?vy119x) rfl rfl rfl rfl (by kernel_rfl) (by kernel_rfl) (by kernel_rfl) (fun _ _ _ h => h) (by rfl) ?hy119x hHeld ?ry119x
            case hy119x => (intro w' hSw; (try dsimp only at hSw); go_simp <;> with_reducible rfl)
            try simp only [Act.put, List.setIfInBounds_toArray, List.set_cons_zero, List.set_cons_succ]
            refine take_op (i := 42) (d := 69) (OP := Op.move (Operand.tmp 68)) (T := 4) (v := ?vy120x) rfl rfl rfl rfl (by kernel_rfl) (by kernel_rfl) (by kernel_rfl) (fun _ _ _ h => h) (by rfl) ?hy120x hHeld ?ry120x
            case hy120x => (intro w' hSw; (try dsimp only at hSw); go_simp <;> with_reducible rfl)
            try simp only [Act.put, List.setIfInBounds_toArray, List.set_cons_zero, List.set_cons_succ]
            refine pass_op (i := 43) (d := 70) rfl rfl (by kernel_rfl) (by kernel_rfl) (by kernel_rfl) (fun _ _ _ h => h) (by rfl) hHeld ?_
            try simp only [Act.put, List.setIfInBounds_toArray, List.set_cons_zero, List.set_cons_succ]
            refine pass_op (i := 44) (d := 71) rfl rfl (by kernel_rfl) (by kernel_rfl) (by kernel_rfl) (fun _ _ _ h => h) (by rfl) hHeld ?_
            try simp only [Act.put, List.setIfInBounds_toArray, List.set_cons_zero, List.set_cons_succ]
            refine pass_op (i := 45) (d := 72) rfl rfl (by kernel_rfl) (by kernel_rfl) (by kernel_rfl) (fun _ _ _ h => h) (by rfl) hHeld ?_
            try simp only [Act.put, List.setIfInBounds_toArray, List.set_cons_zero, List.set_cons_succ]
            refine pass_op (i := 46) (d := 73) rfl rfl (by kernel_rfl) (by kernel_rfl) (by kernel_rfl) (fun _ _ _ h => h) (by rfl) hHeld ?_
            try simp only [Act.put, List.setIfInBounds_toArray, List.set_cons_zero, List.set_cons_succ]
            refine take_op (i := 47) (d := 74) (OP := Op.pick (Operand.tmp 69) (Operand.tmp 73) (Operand.const (Value.bool false))) (T := 4) (v := ?vy125x) rfl rfl rfl rfl (by kernel_rfl) (by kernel_rfl) (by kernel_rfl) (fun _ _ _ h => h) (by rfl) ?hy125x hHeld ?ry125x
            case hy125x => (intro w' hSw; (try dsimp only at hSw); go_simp <;> with_reducible rfl)
            try simp only [Act.put, List.setIfInBounds_toArray, List.set_cons_zero, List.set_cons_succ]
            refine take_op (i := 48) (d := 75) (OP := Op.pick (Operand.tmp 63) (Operand.const (Value.bool true)) (Operand.tmp 74)) (T := 4) (v := ?vy126x) rfl rfl rfl rfl (by kernel_rfl) (by kernel_rfl) (by kernel_rfl) (fun _ _ _ h => h) (by rfl) ?hy126x hHeld ?ry126x
            case hy126x => (intro w' hSw; (try dsimp only at hSw); go_simp <;> with_reducible rfl)
            try simp only [Act.put, List.setIfInBounds_toArray, List.set_cons_zero, List.set_cons_succ]
            refine wpAnyH_done (by kernel_rfl) ?_ _
            go_wp2
            go_meet
            exact ⟨rfl, hide ⟨hHeld, HD.out⟩⟩
        · clear gtr
          by_cases hg : g < g'
          · have hm1 : (ab != -1) = false := by rw [gls hg]; rfl
            clear gls
            refine wp_region_held_drew (S := (fun w' => w'.heap[w.heap.size]? = some (.cells #[.int .i64 g, .int .i64 r, .string l, .int .i64 n, .int .i64 x] 27) ∧ w'.heap[w.heap.size + 1]? = some (.cells #[.int .i64 g', .int .i64 r', .string l', .int .i64 n', .int .i64 x'] 27) ∧ w'.heap[w.heap.size + 1 + 1]? = some (.cells #[.int .i64 g2, .int .i64 r2, .string l2, .int .i64 n2, .int .i64 x2] 27))) (by kernel_rfl) (by exact hS) (fun hHeld => ?_)
            try dsimp only at hHeld
            refine take_op (i := 0) (d := 27) (OP := Op.load 27 (Operand.tmp 3)) (T := 27) (v := sv g r l n x) rfl rfl rfl rfl (by kernel_rfl) (by kernel_rfl) (by kernel_rfl) (fun _ _ _ h => h) (by rfl) (fun w' hSw => exec_load27 rfl hSw.1) hHeld ?_
            try simp only [Act.put, List.setIfInBounds_toArray, List.set_cons_zero, List.set_cons_succ]
            refine take_op (i := 1) (d := 28) (OP := Op.load 27 (Operand.tmp 4)) (T := 27) (v := sv g' r' l' n' x') rfl rfl rfl rfl (by kernel_rfl) (by kernel_rfl) (by kernel_rfl) (fun _ _ _ h => h) (by rfl) (fun w' hSw => exec_load27 rfl hSw.2.1) hHeld ?_
            try simp only [Act.put, List.setIfInBounds_toArray, List.set_cons_zero, List.set_cons_succ]
            refine take_op (i := 3) (d := 30) (OP := Op.load 27 (Operand.tmp 4)) (T := 27) (v := sv g' r' l' n' x') rfl rfl rfl rfl (by kernel_rfl) (by kernel_rfl) (by kernel_rfl) (fun _ _ _ h => h) (by rfl) (fun w' hSw => exec_load27 rfl hSw.2.1) hHeld ?_
            try simp only [Act.put, List.setIfInBounds_toArray, List.set_cons_zero, List.set_cons_succ]
            refine take_op (i := 4) (d := 31) (OP := Op.load 27 (Operand.tmp 3)) (T := 27) (v := sv g r l n x) rfl rfl rfl rfl (by kernel_rfl) (by kernel_rfl) (by kernel_rfl) (fun _ _ _ h => h) (by rfl) (fun w' hSw => exec_load27 rfl hSw.1) hHeld ?_
            try simp only [Act.put, List.setIfInBounds_toArray, List.set_cons_zero, List.set_cons_succ]
            refine call_op (i := 2) (d := 29) (OP := Op.call { callee := Callee.value (Operand.func 50), args := #[Operand.tmp 27, Operand.tmp 28], argTypes := #[27, 27] }) (T := 3) (f := 50) (args := #[sv g r l n x, sv g' r' l' n' x']) rfl rfl rfl rfl (by kernel_rfl) (by rfl) (by go_simp) ?_
            refine (cab _).mono ?_
            rintro e q8 ⟨rfl, bq8⟩
            have hSq8 : q8.heap[w.heap.size]? = some (.cells #[.int .i64 g, .int .i64 r, .string l, .int .i64 n, .int .i64 x] 27) ∧ q8.heap[w.heap.size + 1]? = some (.cells #[.int .i64 g', .int .i64 r', .string l', .int .i64 n', .int .i64 x'] 27) ∧ q8.heap[w.heap.size + 1 + 1]? = some (.cells #[.int .i64 g2, .int .i64 r2, .string l2, .int .i64 n2, .int .i64 x2] 27) := ⟨keptB bq8 hHeld.1, keptB bq8 hHeld.2.1, keptB bq8 hHeld.2.2⟩
            replace HD := hide (HD.out.trans (bq8.mono HD.out.size))
            clear bq8
            refine ⟨_, rfl, hSq8, ?_⟩
            replace hHeld := hSq8
            try simp only [Act.put, List.setIfInBounds_toArray, List.set_cons_zero, List.set_cons_succ]
            refine call_op (i := 5) (d := 32) (OP := Op.call { callee := Callee.value (Operand.func 50), args := #[Operand.tmp 30, Operand.tmp 31], argTypes := #[27, 27] }) (T := 3) (f := 50) (args := #[sv g' r' l' n' x', sv g r l n x]) rfl rfl rfl rfl (by kernel_rfl) (by rfl) (by go_simp) ?_
            refine (cba _).mono ?_
            rintro e q9 ⟨rfl, bq9⟩
            have hSq9 : q9.heap[w.heap.size]? = some (.cells #[.int .i64 g, .int .i64 r, .string l, .int .i64 n, .int .i64 x] 27) ∧ q9.heap[w.heap.size + 1]? = some (.cells #[.int .i64 g', .int .i64 r', .string l', .int .i64 n', .int .i64 x'] 27) ∧ q9.heap[w.heap.size + 1 + 1]? = some (.cells #[.int .i64 g2, .int .i64 r2, .string l2, .int .i64 n2, .int .i64 x2] 27) := ⟨keptB bq9 hHeld.1, keptB bq9 hHeld.2.1, keptB bq9 hHeld.2.2⟩
            replace HD := hide (HD.out.trans (bq9.mono HD.out.size))
            clear bq9
            refine ⟨_, rfl, hSq9, ?_⟩
            replace hHeld := hSq9
            try simp only [Act.put, List.setIfInBounds_toArray, List.set_cons_zero, List.set_cons_succ]
            refine take_op (i := 6) (d := 33) (OP := Op.unOp UnOp.neg 3 (Operand.tmp 32)) (T := 3) (v := ?vy31x) rfl rfl rfl rfl (by kernel_rfl) (by kernel_rfl) (by kernel_rfl) (fun _ _ _ h => h) (by rfl) ?hy31x hHeld ?ry31x
            case hy31x => (intro w' hSw; (try dsimp only at hSw); go_simp <;> with_reducible rfl)
            try simp only [Act.put, List.setIfInBounds_toArray, List.set_cons_zero, List.set_cons_succ]
            refine take_op (i := 7) (d := 34) (OP := Op.binOp BinOp.neq 3 (Operand.tmp 29) (Operand.tmp 33) 3) (T := 4) (v := ?vy32x) rfl rfl rfl rfl (by kernel_rfl) (by kernel_rfl) (by kernel_rfl) (fun _ _ _ h => h) (by rfl) ?hy32x hHeld ?ry32x
            case hy32x => (intro w' hSw; (try dsimp only at hSw); go_simp <;> with_reducible rfl)
            try simp only [Act.put, List.setIfInBounds_toArray, List.set_cons_zero, List.set_cons_succ]
            refine take_op (i := 8) (d := 35) (OP := Op.move (Operand.tmp 34)) (T := 4) (v := ?vy33x) rfl rfl rfl rfl (by kernel_rfl) (by kernel_rfl) (by kernel_rfl) (fun _ _ _ h => h) (by rfl) ?hy33x hHeld ?ry33x
            case hy33x => (intro w' hSw; (try dsimp only at hSw); go_simp <;> with_reducible rfl)
            try simp only [Act.put, List.setIfInBounds_toArray, List.set_cons_zero, List.set_cons_succ]
            refine take_op (i := 9) (d := 36) (OP := Op.load 27 (Operand.tmp 3)) (T := 27) (v := sv g r l n x) rfl rfl rfl rfl (by kernel_rfl) (by kernel_rfl) (by kernel_rfl) (fun _ _ _ h => h) (by rfl) (fun w' hSw => exec_load27 rfl hSw.1) hHeld ?_
            try simp only [Act.put, List.setIfInBounds_toArray, List.set_cons_zero, List.set_cons_succ]
            refine take_op (i := 10) (d := 37) (OP := Op.load 27 (Operand.tmp 4)) (T := 27) (v := sv g' r' l' n' x') rfl rfl rfl rfl (by kernel_rfl) (by kernel_rfl) (by kernel_rfl) (fun _ _ _ h => h) (by rfl) (fun w' hSw => exec_load27 rfl hSw.2.1) hHeld ?_
            try simp only [Act.put, List.setIfInBounds_toArray, List.set_cons_zero, List.set_cons_succ]
            refine take_op (i := 13) (d := 40) (OP := Op.load 27 (Operand.tmp 3)) (T := 27) (v := sv g r l n x) rfl rfl rfl rfl (by kernel_rfl) (by kernel_rfl) (by kernel_rfl) (fun _ _ _ h => h) (by rfl) (fun w' hSw => exec_load27 rfl hSw.1) hHeld ?_
            try simp only [Act.put, List.setIfInBounds_toArray, List.set_cons_zero, List.set_cons_succ]
            refine take_op (i := 14) (d := 41) (OP := Op.load 27 (Operand.tmp 4)) (T := 27) (v := sv g' r' l' n' x') rfl rfl rfl rfl (by kernel_rfl) (by kernel_rfl) (by kernel_rfl) (fun _ _ _ h => h) (by rfl) (fun w' hSw => exec_load27 rfl hSw.2.1) hHeld ?_
            try simp only [Act.put, List.setIfInBounds_toArray, List.set_cons_zero, List.set_cons_succ]
            refine take_op (i := 15) (d := 42) (OP := Op.binOp BinOp.eql 27 (Operand.tmp 40) (Operand.tmp 41) 27) (T := 4) (v := .bool EQ) rfl rfl rfl rfl (by kernel_rfl) (by kernel_rfl) (by kernel_rfl) (fun _ _ _ h => h) (by rfl) (fun w' _ => exec_eqv rfl rfl e27) hHeld ?_
            try simp only [Act.put, List.setIfInBounds_toArray, List.set_cons_zero, List.set_cons_succ]
            refine call_op (i := 11) (d := 38) (OP := Op.call { callee := Callee.value (Operand.func 50), args := #[Operand.tmp 36, Operand.tmp 37], argTypes := #[27, 27] }) (T := 3) (f := 50) (args := #[sv g r l n x, sv g' r' l' n' x']) rfl rfl rfl rfl (by kernel_rfl) (by rfl) (by go_simp) ?_
            refine (cab _).mono ?_
            rintro e q10 ⟨rfl, bq10⟩
            have hSq10 : q10.heap[w.heap.size]? = some (.cells #[.int .i64 g, .int .i64 r, .string l, .int .i64 n, .int .i64 x] 27) ∧ q10.heap[w.heap.size + 1]? = some (.cells #[.int .i64 g', .int .i64 r', .string l', .int .i64 n', .int .i64 x'] 27) ∧ q10.heap[w.heap.size + 1 + 1]? = some (.cells #[.int .i64 g2, .int .i64 r2, .string l2, .int .i64 n2, .int .i64 x2] 27) := ⟨keptB bq10 hHeld.1, keptB bq10 hHeld.2.1, keptB bq10 hHeld.2.2⟩
            replace HD := hide (HD.out.trans (bq10.mono HD.out.size))
            clear bq10
            refine ⟨_, rfl, hSq10, ?_⟩
            replace hHeld := hSq10
            try simp only [Act.put, List.setIfInBounds_toArray, List.set_cons_zero, List.set_cons_succ]
            refine take_op (i := 12) (d := 39) (OP := Op.binOp BinOp.eql 3 (Operand.tmp 38) (Operand.const (Value.int IntKind.i64 0)) 3) (T := 4) (v := ?vy34x) rfl rfl rfl rfl (by kernel_rfl) (by kernel_rfl) (by kernel_rfl) (fun _ _ _ h => h) (by rfl) ?hy34x hHeld ?ry34x
            case hy34x => (intro w' hSw; (try dsimp only at hSw); go_simp <;> with_reducible rfl)
            try simp only [Act.put, List.setIfInBounds_toArray, List.set_cons_zero, List.set_cons_succ]
            refine take_op (i := 16) (d := 43) (OP := Op.binOp BinOp.neq 4 (Operand.tmp 39) (Operand.tmp 42) 4) (T := 4) (v := ?vy35x) rfl rfl rfl rfl (by kernel_rfl) (by kernel_rfl) (by kernel_rfl) (fun _ _ _ h => h) (by rfl) ?hy35x hHeld ?ry35x
            case hy35x => (intro w' hSw; (try dsimp only at hSw); go_simp <;> with_reducible rfl)
            try simp only [Act.put, List.setIfInBounds_toArray, List.set_cons_zero, List.set_cons_succ]
            refine take_op (i := 17) (d := 44) (OP := Op.pick (Operand.tmp 35) (Operand.const (Value.bool true)) (Operand.tmp 43)) (T := 4) (v := ?vy36x) rfl rfl rfl rfl (by kernel_rfl) (by kernel_rfl) (by kernel_rfl) (fun _ _ _ h => h) (by rfl) ?hy36x hHeld ?ry36x
            case hy36x => (intro w' hSw; (try dsimp only at hSw); go_simp <;> with_reducible rfl)
            try simp only [Act.put, List.setIfInBounds_toArray, List.set_cons_zero, List.set_cons_succ]
            refine take_op (i := 18) (d := 45) (OP := Op.move (Operand.tmp 44)) (T := 4) (v := ?vy37x) rfl rfl rfl rfl (by kernel_rfl) (by kernel_rfl) (by kernel_rfl) (fun _ _ _ h => h) (by rfl) ?hy37x hHeld ?ry37x
            case hy37x => (intro w' hSw; (try dsimp only at hSw); go_simp <;> with_reducible rfl)
            try simp only [Act.put, List.setIfInBounds_toArray, List.set_cons_zero, List.set_cons_succ]
            refine take_op (i := 19) (d := 46) (OP := Op.load 27 (Operand.tmp 3)) (T := 27) (v := sv g r l n x) rfl rfl rfl rfl (by kernel_rfl) (by kernel_rfl) (by kernel_rfl) (fun _ _ _ h => h) (by rfl) (fun w' hSw => exec_load27 rfl hSw.1) hHeld ?_
            try simp only [Act.put, List.setIfInBounds_toArray, List.set_cons_zero, List.set_cons_succ]
            refine take_op (i := 20) (d := 47) (OP := Op.load 27 (Operand.tmp 4)) (T := 27) (v := sv g' r' l' n' x') rfl rfl rfl rfl (by kernel_rfl) (by kernel_rfl) (by kernel_rfl) (fun _ _ _ h => h) (by rfl) (fun w' hSw => exec_load27 rfl hSw.2.1) hHeld ?_
            try simp only [Act.put, List.setIfInBounds_toArray, List.set_cons_zero, List.set_cons_succ]
            refine call_op (i := 21) (d := 48) (OP := Op.call { callee := Callee.value (Operand.func 50), args := #[Operand.tmp 46, Operand.tmp 47], argTypes := #[27, 27] }) (T := 3) (f := 50) (args := #[sv g r l n x, sv g' r' l' n' x']) rfl rfl rfl rfl (by kernel_rfl) (by rfl) (by go_simp) ?_
            refine (cab _).mono ?_
            rintro e q11 ⟨rfl, bq11⟩
            have hSq11 : q11.heap[w.heap.size]? = some (.cells #[.int .i64 g, .int .i64 r, .string l, .int .i64 n, .int .i64 x] 27) ∧ q11.heap[w.heap.size + 1]? = some (.cells #[.int .i64 g', .int .i64 r', .string l', .int .i64 n', .int .i64 x'] 27) ∧ q11.heap[w.heap.size + 1 + 1]? = some (.cells #[.int .i64 g2, .int .i64 r2, .string l2, .int .i64 n2, .int .i64 x2] 27) := ⟨keptB bq11 hHeld.1, keptB bq11 hHeld.2.1, keptB bq11 hHeld.2.2⟩
            replace HD := hide (HD.out.trans (bq11.mono HD.out.size))
            clear bq11
            refine ⟨_, rfl, hSq11, ?_⟩
            replace hHeld := hSq11
            try simp only [Act.put, List.setIfInBounds_toArray, List.set_cons_zero, List.set_cons_succ]
            refine take_op (i := 22) (d := 49) (OP := Op.binOp BinOp.leq 3 (Operand.tmp 48) (Operand.const (Value.int IntKind.i64 0)) 3) (T := 4) (v := ?vy38x) rfl rfl rfl rfl (by kernel_rfl) (by kernel_rfl) (by kernel_rfl) (fun _ _ _ h => h) (by rfl) ?hy38x hHeld ?ry38x
            case hy38x => (intro w' hSw; (try dsimp only at hSw); go_simp <;> with_reducible rfl)
            try simp only [Act.put, List.setIfInBounds_toArray, List.set_cons_zero, List.set_cons_succ]
            refine take_op (i := 23) (d := 50) (OP := Op.move (Operand.tmp 49)) (T := 4) (v := ?vy39x) rfl rfl rfl rfl (by kernel_rfl) (by kernel_rfl) (by kernel_rfl) (fun _ _ _ h => h) (by rfl) ?hy39x hHeld ?ry39x
            case hy39x => (intro w' hSw; (try dsimp only at hSw); go_simp <;> with_reducible rfl)
            try simp only [Act.put, List.setIfInBounds_toArray, List.set_cons_zero, List.set_cons_succ]
            refine take_op (i := 24) (d := 51) (OP := Op.load 27 (Operand.tmp 4)) (T := 27) (v := sv g' r' l' n' x') rfl rfl rfl rfl (by kernel_rfl) (by kernel_rfl) (by kernel_rfl) (fun _ _ _ h => h) (by rfl) (fun w' hSw => exec_load27 rfl hSw.2.1) hHeld ?_
            try simp only [Act.put, List.setIfInBounds_toArray, List.set_cons_zero, List.set_cons_succ]
            refine take_op (i := 25) (d := 52) (OP := Op.load 27 (Operand.tmp 5)) (T := 27) (v := sv g2 r2 l2 n2 x2) rfl rfl rfl rfl (by kernel_rfl) (by kernel_rfl) (by kernel_rfl) (fun _ _ _ h => h) (by rfl) (fun w' hSw => exec_load27 rfl hSw.2.2) hHeld ?_
            try simp only [Act.put, List.setIfInBounds_toArray, List.set_cons_zero, List.set_cons_succ]
            refine call_op (i := 26) (d := 53) (OP := Op.call { callee := Callee.value (Operand.func 50), args := #[Operand.tmp 51, Operand.tmp 52], argTypes := #[27, 27] }) (T := 3) (f := 50) (args := #[sv g' r' l' n' x', sv g2 r2 l2 n2 x2]) rfl rfl rfl rfl (by kernel_rfl) (by rfl) (by go_simp) ?_
            refine (cbc _).mono ?_
            rintro e q12 ⟨rfl, bq12⟩
            have hSq12 : q12.heap[w.heap.size]? = some (.cells #[.int .i64 g, .int .i64 r, .string l, .int .i64 n, .int .i64 x] 27) ∧ q12.heap[w.heap.size + 1]? = some (.cells #[.int .i64 g', .int .i64 r', .string l', .int .i64 n', .int .i64 x'] 27) ∧ q12.heap[w.heap.size + 1 + 1]? = some (.cells #[.int .i64 g2, .int .i64 r2, .string l2, .int .i64 n2, .int .i64 x2] 27) := ⟨keptB bq12 hHeld.1, keptB bq12 hHeld.2.1, keptB bq12 hHeld.2.2⟩
            replace HD := hide (HD.out.trans (bq12.mono HD.out.size))
            clear bq12
            refine ⟨_, rfl, hSq12, ?_⟩
            replace hHeld := hSq12
            try simp only [Act.put, List.setIfInBounds_toArray, List.set_cons_zero, List.set_cons_succ]
            refine take_op (i := 27) (d := 54) (OP := Op.binOp BinOp.leq 3 (Operand.tmp 53) (Operand.const (Value.int IntKind.i64 0)) 3) (T := 4) (v := ?vy40x) rfl rfl rfl rfl (by kernel_rfl) (by kernel_rfl) (by kernel_rfl) (fun _ _ _ h => h) (by rfl) ?hy40x hHeld ?ry40x
            case hy40x => (intro w' hSw; (try dsimp only at hSw); go_simp <;> with_reducible rfl)
            try simp only [Act.put, List.setIfInBounds_toArray, List.set_cons_zero, List.set_cons_succ]
            refine take_op (i := 28) (d := 55) (OP := Op.pick (Operand.tmp 50) (Operand.tmp 54) (Operand.const (Value.bool false))) (T := 4) (v := ?vy41x) rfl rfl rfl rfl (by kernel_rfl) (by kernel_rfl) (by kernel_rfl) (fun _ _ _ h => h) (by rfl) ?hy41x hHeld ?ry41x
            case hy41x => (intro w' hSw; (try dsimp only at hSw); go_simp <;> with_reducible rfl)
            try simp only [Act.put, List.setIfInBounds_toArray, List.set_cons_zero, List.set_cons_succ]
            refine take_op (i := 29) (d := 56) (OP := Op.move (Operand.tmp 55)) (T := 4) (v := ?vy42x) rfl rfl rfl rfl (by kernel_rfl) (by kernel_rfl) (by kernel_rfl) (fun _ _ _ h => h) (by rfl) ?hy42x hHeld ?ry42x
            case hy42x => (intro w' hSw; (try dsimp only at hSw); go_simp <;> with_reducible rfl)
            try simp only [Act.put, List.setIfInBounds_toArray, List.set_cons_zero, List.set_cons_succ]
            refine pass_op (i := 30) (d := 57) rfl rfl (by kernel_rfl) (by kernel_rfl) (by kernel_rfl) (fun _ _ _ h => h) (by rfl) hHeld ?_
            try simp only [Act.put, List.setIfInBounds_toArray, List.set_cons_zero, List.set_cons_succ]
            refine pass_op (i := 31) (d := 58) rfl rfl (by kernel_rfl) (by kernel_rfl) (by kernel_rfl) (fun _ _ _ h => h) (by rfl) hHeld ?_
            try simp only [Act.put, List.setIfInBounds_toArray, List.set_cons_zero, List.set_cons_succ]
            refine pass_op (i := 32) (d := 59) rfl rfl (by kernel_rfl) (by kernel_rfl) (by kernel_rfl) (fun _ _ _ h => h) (by rfl) hHeld ?_
            try simp only [Act.put, List.setIfInBounds_toArray, List.set_cons_zero, List.set_cons_succ]
            refine pass_op (i := 33) (d := 60) rfl rfl (by kernel_rfl) (by kernel_rfl) (by kernel_rfl) (fun _ _ _ h => h) (by rfl) hHeld ?_
            try simp only [Act.put, List.setIfInBounds_toArray, List.set_cons_zero, List.set_cons_succ]
            refine take_op (i := 34) (d := 61) (OP := Op.pick (Operand.tmp 56) (Operand.tmp 60) (Operand.const (Value.bool false))) (T := 4) (v := ?vy47x) rfl rfl rfl rfl (by kernel_rfl) (by kernel_rfl) (by kernel_rfl) (fun _ _ _ h => h) (by rfl) ?hy47x hHeld ?ry47x
            case hy47x => (intro w' hSw; (try dsimp only at hSw); go_simp <;> with_reducible rfl)
            try simp only [Act.put, List.setIfInBounds_toArray, List.set_cons_zero, List.set_cons_succ]
            refine take_op (i := 35) (d := 62) (OP := Op.pick (Operand.tmp 45) (Operand.const (Value.bool true)) (Operand.tmp 61)) (T := 4) (v := ?vy48x) rfl rfl rfl rfl (by kernel_rfl) (by kernel_rfl) (by kernel_rfl) (fun _ _ _ h => h) (by rfl) ?hy48x hHeld ?ry48x
            case hy48x => (intro w' hSw; (try dsimp only at hSw); go_simp <;> with_reducible rfl)
            try simp only [Act.put, List.setIfInBounds_toArray, List.set_cons_zero, List.set_cons_succ]
            refine take_op (i := 36) (d := 63) (OP := Op.move (Operand.tmp 62)) (T := 4) (v := ?vy49x) rfl rfl rfl rfl (by kernel_rfl) (by kernel_rfl) (by kernel_rfl) (fun _ _ _ h => h) (by rfl) ?hy49x hHeld ?ry49x
            case hy49x => (intro w' hSw; (try dsimp only at hSw); go_simp <;> with_reducible rfl)
            try simp only [Act.put, List.setIfInBounds_toArray, List.set_cons_zero, List.set_cons_succ]
            refine take_op (i := 37) (d := 64) (OP := Op.fieldAddr 27 (Operand.tmp 3) 0) (T := 0) (v := .pointer (some ⟨w.heap.size, 0, none⟩)) rfl rfl rfl rfl (by kernel_rfl) (by kernel_rfl) (by kernel_rfl) (fun _ _ _ h => h) (by rfl) (fun w' _ => exec_fa27_0 rfl) hHeld ?_
            try simp only [Act.put, List.setIfInBounds_toArray, List.set_cons_zero, List.set_cons_succ]
            refine take_op (i := 38) (d := 65) (OP := Op.load 2 (Operand.tmp 64)) (T := 2) (v := .int .i64 g) rfl rfl rfl rfl (by kernel_rfl) (by kernel_rfl) (by kernel_rfl) (fun _ _ _ h => h) (by rfl) (fun w' hSw => exec_load2 rfl (blk5 hSw.1).1) hHeld ?_
            try simp only [Act.put, List.setIfInBounds_toArray, List.set_cons_zero, List.set_cons_succ]
            refine take_op (i := 39) (d := 66) (OP := Op.fieldAddr 27 (Operand.tmp 4) 0) (T := 0) (v := .pointer (some ⟨w.heap.size + 1, 0, none⟩)) rfl rfl rfl rfl (by kernel_rfl) (by kernel_rfl) (by kernel_rfl) (fun _ _ _ h => h) (by rfl) (fun w' _ => exec_fa27_0 rfl) hHeld ?_
            try simp only [Act.put, List.setIfInBounds_toArray, List.set_cons_zero, List.set_cons_succ]
            refine take_op (i := 40) (d := 67) (OP := Op.load 2 (Operand.tmp 66)) (T := 2) (v := .int .i64 g') rfl rfl rfl rfl (by kernel_rfl) (by kernel_rfl) (by kernel_rfl) (fun _ _ _ h => h) (by rfl) (fun w' hSw => exec_load2 rfl (blk5 hSw.2.1).1) hHeld ?_
            try simp only [Act.put, List.setIfInBounds_toArray, List.set_cons_zero, List.set_cons_succ]
            refine take_op (i := 41) (d := 68) (OP := Op.binOp BinOp.lss 2 (Operand.tmp 65) (Operand.tmp 67) 2) (T := 4) (v := ?vy50x) rfl rfl rfl rfl (by kernel_rfl) (by kernel_rfl) (by kernel_rfl) (fun _ _ _ h => h) (by rfl) ?hy50x hHeld ?ry50x
            case hy50x => (intro w' hSw; (try dsimp only at hSw); go_simp <;> with_reducible rfl)
            try simp only [Act.put, List.setIfInBounds_toArray, List.set_cons_zero, List.set_cons_succ]
            refine take_op (i := 42) (d := 69) (OP := Op.move (Operand.tmp 68)) (T := 4) (v := ?vy51x) rfl rfl rfl rfl (by kernel_rfl) (by kernel_rfl) (by kernel_rfl) (fun _ _ _ h => h) (by rfl) ?hy51x hHeld ?ry51x
            case hy51x => (intro w' hSw; (try dsimp only at hSw); go_simp <;> with_reducible rfl)
            try simp only [Act.put, List.setIfInBounds_toArray, List.set_cons_zero, List.set_cons_succ]
            refine take_op (i := 43) (d := 70) (OP := Op.load 27 (Operand.tmp 3)) (T := 27) (v := sv g r l n x) rfl rfl rfl rfl (by kernel_rfl) (by kernel_rfl) (by kernel_rfl) (fun _ _ _ h => h) (by rfl) (fun w' hSw => exec_load27 rfl hSw.1) hHeld ?_
            try simp only [Act.put, List.setIfInBounds_toArray, List.set_cons_zero, List.set_cons_succ]
            refine take_op (i := 44) (d := 71) (OP := Op.load 27 (Operand.tmp 4)) (T := 27) (v := sv g' r' l' n' x') rfl rfl rfl rfl (by kernel_rfl) (by kernel_rfl) (by kernel_rfl) (fun _ _ _ h => h) (by rfl) (fun w' hSw => exec_load27 rfl hSw.2.1) hHeld ?_
            try simp only [Act.put, List.setIfInBounds_toArray, List.set_cons_zero, List.set_cons_succ]
            refine call_op (i := 45) (d := 72) (OP := Op.call { callee := Callee.value (Operand.func 50), args := #[Operand.tmp 70, Operand.tmp 71], argTypes := #[27, 27] }) (T := 3) (f := 50) (args := #[sv g r l n x, sv g' r' l' n' x']) rfl rfl rfl rfl (by kernel_rfl) (by rfl) (by go_simp) ?_
            refine (cab _).mono ?_
            rintro e q14 ⟨rfl, bq14⟩
            have hSq14 : q14.heap[w.heap.size]? = some (.cells #[.int .i64 g, .int .i64 r, .string l, .int .i64 n, .int .i64 x] 27) ∧ q14.heap[w.heap.size + 1]? = some (.cells #[.int .i64 g', .int .i64 r', .string l', .int .i64 n', .int .i64 x'] 27) ∧ q14.heap[w.heap.size + 1 + 1]? = some (.cells #[.int .i64 g2, .int .i64 r2, .string l2, .int .i64 n2, .int .i64 x2] 27) := ⟨keptB bq14 hHeld.1, keptB bq14 hHeld.2.1, keptB bq14 hHeld.2.2⟩
            replace HD := hide (HD.out.trans (bq14.mono HD.out.size))
            clear bq14
            refine ⟨_, rfl, hSq14, ?_⟩
            replace hHeld := hSq14
            try simp only [Act.put, List.setIfInBounds_toArray, List.set_cons_zero, List.set_cons_succ]
            refine take_op (i := 46) (d := 73) (OP := Op.binOp BinOp.neq 3 (Operand.tmp 72) (Operand.const (Value.int IntKind.i64 (-1))) 3) (T := 4) (v := ?vy52x) rfl rfl rfl rfl (by kernel_rfl) (by kernel_rfl) (by kernel_rfl) (fun _ _ _ h => h) (by rfl) ?hy52x hHeld ?ry52x
            case hy52x => (intro w' hSw; (try dsimp only at hSw); go_simp <;> with_reducible rfl)
            try simp only [Act.put, List.setIfInBounds_toArray, List.set_cons_zero, List.set_cons_succ]
            refine take_op (i := 47) (d := 74) (OP := Op.pick (Operand.tmp 69) (Operand.tmp 73) (Operand.const (Value.bool false))) (T := 4) (v := ?vy53x) rfl rfl rfl rfl (by kernel_rfl) (by kernel_rfl) (by kernel_rfl) (fun _ _ _ h => h) (by rfl) ?hy53x hHeld ?ry53x
            case hy53x => (intro w' hSw; (try dsimp only at hSw); go_simp <;> with_reducible rfl)
            try simp only [Act.put, List.setIfInBounds_toArray, List.set_cons_zero, List.set_cons_succ]
            refine take_op (i := 48) (d := 75) (OP := Op.pick (Operand.tmp 63) (Operand.const (Value.bool true)) (Operand.tmp 74)) (T := 4) (v := ?vy54x) rfl rfl rfl rfl (by kernel_rfl) (by kernel_rfl) (by kernel_rfl) (fun _ _ _ h => h) (by rfl) ?hy54x hHeld ?ry54x
            case hy54x => (intro w' hSw; (try dsimp only at hSw); go_simp <;> with_reducible rfl)
            try simp only [Act.put, List.setIfInBounds_toArray, List.set_cons_zero, List.set_cons_succ]
            refine wpAnyH_done (by kernel_rfl) ?_ _
            go_wp2
            go_meet
            exact ⟨rfl, hide ⟨hHeld, HD.out⟩⟩
          · clear gls
            refine wp_region_held_drew (S := (fun w' => w'.heap[w.heap.size]? = some (.cells #[.int .i64 g, .int .i64 r, .string l, .int .i64 n, .int .i64 x] 27) ∧ w'.heap[w.heap.size + 1]? = some (.cells #[.int .i64 g', .int .i64 r', .string l', .int .i64 n', .int .i64 x'] 27) ∧ w'.heap[w.heap.size + 1 + 1]? = some (.cells #[.int .i64 g2, .int .i64 r2, .string l2, .int .i64 n2, .int .i64 x2] 27))) (by kernel_rfl) (by exact hS) (fun hHeld => ?_)
            try dsimp only at hHeld
            refine take_op (i := 0) (d := 27) (OP := Op.load 27 (Operand.tmp 3)) (T := 27) (v := sv g r l n x) rfl rfl rfl rfl (by kernel_rfl) (by kernel_rfl) (by kernel_rfl) (fun _ _ _ h => h) (by rfl) (fun w' hSw => exec_load27 rfl hSw.1) hHeld ?_
            try simp only [Act.put, List.setIfInBounds_toArray, List.set_cons_zero, List.set_cons_succ]
            refine take_op (i := 1) (d := 28) (OP := Op.load 27 (Operand.tmp 4)) (T := 27) (v := sv g' r' l' n' x') rfl rfl rfl rfl (by kernel_rfl) (by kernel_rfl) (by kernel_rfl) (fun _ _ _ h => h) (by rfl) (fun w' hSw => exec_load27 rfl hSw.2.1) hHeld ?_
            try simp only [Act.put, List.setIfInBounds_toArray, List.set_cons_zero, List.set_cons_succ]
            refine take_op (i := 3) (d := 30) (OP := Op.load 27 (Operand.tmp 4)) (T := 27) (v := sv g' r' l' n' x') rfl rfl rfl rfl (by kernel_rfl) (by kernel_rfl) (by kernel_rfl) (fun _ _ _ h => h) (by rfl) (fun w' hSw => exec_load27 rfl hSw.2.1) hHeld ?_
            try simp only [Act.put, List.setIfInBounds_toArray, List.set_cons_zero, List.set_cons_succ]
            refine take_op (i := 4) (d := 31) (OP := Op.load 27 (Operand.tmp 3)) (T := 27) (v := sv g r l n x) rfl rfl rfl rfl (by kernel_rfl) (by kernel_rfl) (by kernel_rfl) (fun _ _ _ h => h) (by rfl) (fun w' hSw => exec_load27 rfl hSw.1) hHeld ?_
            try simp only [Act.put, List.setIfInBounds_toArray, List.set_cons_zero, List.set_cons_succ]
            refine call_op (i := 2) (d := 29) (OP := Op.call { callee := Callee.value (Operand.func 50), args := #[Operand.tmp 27, Operand.tmp 28], argTypes := #[27, 27] }) (T := 3) (f := 50) (args := #[sv g r l n x, sv g' r' l' n' x']) rfl rfl rfl rfl (by kernel_rfl) (by rfl) (by go_simp) ?_
            refine (cab _).mono ?_
            rintro e q15 ⟨rfl, bq15⟩
            have hSq15 : q15.heap[w.heap.size]? = some (.cells #[.int .i64 g, .int .i64 r, .string l, .int .i64 n, .int .i64 x] 27) ∧ q15.heap[w.heap.size + 1]? = some (.cells #[.int .i64 g', .int .i64 r', .string l', .int .i64 n', .int .i64 x'] 27) ∧ q15.heap[w.heap.size + 1 + 1]? = some (.cells #[.int .i64 g2, .int .i64 r2, .string l2, .int .i64 n2, .int .i64 x2] 27) := ⟨keptB bq15 hHeld.1, keptB bq15 hHeld.2.1, keptB bq15 hHeld.2.2⟩
            replace HD := hide (HD.out.trans (bq15.mono HD.out.size))
            clear bq15
            refine ⟨_, rfl, hSq15, ?_⟩
            replace hHeld := hSq15
            try simp only [Act.put, List.setIfInBounds_toArray, List.set_cons_zero, List.set_cons_succ]
            refine call_op (i := 5) (d := 32) (OP := Op.call { callee := Callee.value (Operand.func 50), args := #[Operand.tmp 30, Operand.tmp 31], argTypes := #[27, 27] }) (T := 3) (f := 50) (args := #[sv g' r' l' n' x', sv g r l n x]) rfl rfl rfl rfl (by kernel_rfl) (by rfl) (by go_simp) ?_
            refine (cba _).mono ?_
            rintro e q16 ⟨rfl, bq16⟩
            have hSq16 : q16.heap[w.heap.size]? = some (.cells #[.int .i64 g, .int .i64 r, .string l, .int .i64 n, .int .i64 x] 27) ∧ q16.heap[w.heap.size + 1]? = some (.cells #[.int .i64 g', .int .i64 r', .string l', .int .i64 n', .int .i64 x'] 27) ∧ q16.heap[w.heap.size + 1 + 1]? = some (.cells #[.int .i64 g2, .int .i64 r2, .string l2, .int .i64 n2, .int .i64 x2] 27) := ⟨keptB bq16 hHeld.1, keptB bq16 hHeld.2.1, keptB bq16 hHeld.2.2⟩
            replace HD := hide (HD.out.trans (bq16.mono HD.out.size))
            clear bq16
            refine ⟨_, rfl, hSq16, ?_⟩
            replace hHeld := hSq16
            try simp only [Act.put, List.setIfInBounds_toArray, List.set_cons_zero, List.set_cons_succ]
            refine take_op (i := 6) (d := 33) (OP := Op.unOp UnOp.neg 3 (Operand.tmp 32)) (T := 3) (v := ?vy55x) rfl rfl rfl rfl (by kernel_rfl) (by kernel_rfl) (by kernel_rfl) (fun _ _ _ h => h) (by rfl) ?hy55x hHeld ?ry55x
            case hy55x => (intro w' hSw; (try dsimp only at hSw); go_simp <;> with_reducible rfl)
            try simp only [Act.put, List.setIfInBounds_toArray, List.set_cons_zero, List.set_cons_succ]
            refine take_op (i := 7) (d := 34) (OP := Op.binOp BinOp.neq 3 (Operand.tmp 29) (Operand.tmp 33) 3) (T := 4) (v := ?vy56x) rfl rfl rfl rfl (by kernel_rfl) (by kernel_rfl) (by kernel_rfl) (fun _ _ _ h => h) (by rfl) ?hy56x hHeld ?ry56x
            case hy56x => (intro w' hSw; (try dsimp only at hSw); go_simp <;> with_reducible rfl)
            try simp only [Act.put, List.setIfInBounds_toArray, List.set_cons_zero, List.set_cons_succ]
            refine take_op (i := 8) (d := 35) (OP := Op.move (Operand.tmp 34)) (T := 4) (v := ?vy57x) rfl rfl rfl rfl (by kernel_rfl) (by kernel_rfl) (by kernel_rfl) (fun _ _ _ h => h) (by rfl) ?hy57x hHeld ?ry57x
            case hy57x => (intro w' hSw; (try dsimp only at hSw); go_simp <;> with_reducible rfl)
            try simp only [Act.put, List.setIfInBounds_toArray, List.set_cons_zero, List.set_cons_succ]
            refine take_op (i := 9) (d := 36) (OP := Op.load 27 (Operand.tmp 3)) (T := 27) (v := sv g r l n x) rfl rfl rfl rfl (by kernel_rfl) (by kernel_rfl) (by kernel_rfl) (fun _ _ _ h => h) (by rfl) (fun w' hSw => exec_load27 rfl hSw.1) hHeld ?_
            try simp only [Act.put, List.setIfInBounds_toArray, List.set_cons_zero, List.set_cons_succ]
            refine take_op (i := 10) (d := 37) (OP := Op.load 27 (Operand.tmp 4)) (T := 27) (v := sv g' r' l' n' x') rfl rfl rfl rfl (by kernel_rfl) (by kernel_rfl) (by kernel_rfl) (fun _ _ _ h => h) (by rfl) (fun w' hSw => exec_load27 rfl hSw.2.1) hHeld ?_
            try simp only [Act.put, List.setIfInBounds_toArray, List.set_cons_zero, List.set_cons_succ]
            refine take_op (i := 13) (d := 40) (OP := Op.load 27 (Operand.tmp 3)) (T := 27) (v := sv g r l n x) rfl rfl rfl rfl (by kernel_rfl) (by kernel_rfl) (by kernel_rfl) (fun _ _ _ h => h) (by rfl) (fun w' hSw => exec_load27 rfl hSw.1) hHeld ?_
            try simp only [Act.put, List.setIfInBounds_toArray, List.set_cons_zero, List.set_cons_succ]
            refine take_op (i := 14) (d := 41) (OP := Op.load 27 (Operand.tmp 4)) (T := 27) (v := sv g' r' l' n' x') rfl rfl rfl rfl (by kernel_rfl) (by kernel_rfl) (by kernel_rfl) (fun _ _ _ h => h) (by rfl) (fun w' hSw => exec_load27 rfl hSw.2.1) hHeld ?_
            try simp only [Act.put, List.setIfInBounds_toArray, List.set_cons_zero, List.set_cons_succ]
            refine take_op (i := 15) (d := 42) (OP := Op.binOp BinOp.eql 27 (Operand.tmp 40) (Operand.tmp 41) 27) (T := 4) (v := .bool EQ) rfl rfl rfl rfl (by kernel_rfl) (by kernel_rfl) (by kernel_rfl) (fun _ _ _ h => h) (by rfl) (fun w' _ => exec_eqv rfl rfl e27) hHeld ?_
            try simp only [Act.put, List.setIfInBounds_toArray, List.set_cons_zero, List.set_cons_succ]
            refine call_op (i := 11) (d := 38) (OP := Op.call { callee := Callee.value (Operand.func 50), args := #[Operand.tmp 36, Operand.tmp 37], argTypes := #[27, 27] }) (T := 3) (f := 50) (args := #[sv g r l n x, sv g' r' l' n' x']) rfl rfl rfl rfl (by kernel_rfl) (by rfl) (by go_simp) ?_
            refine (cab _).mono ?_
            rintro e q17 ⟨rfl, bq17⟩
            have hSq17 : q17.heap[w.heap.size]? = some (.cells #[.int .i64 g, .int .i64 r, .string l, .int .i64 n, .int .i64 x] 27) ∧ q17.heap[w.heap.size + 1]? = some (.cells #[.int .i64 g', .int .i64 r', .string l', .int .i64 n', .int .i64 x'] 27) ∧ q17.heap[w.heap.size + 1 + 1]? = some (.cells #[.int .i64 g2, .int .i64 r2, .string l2, .int .i64 n2, .int .i64 x2] 27) := ⟨keptB bq17 hHeld.1, keptB bq17 hHeld.2.1, keptB bq17 hHeld.2.2⟩
            replace HD := hide (HD.out.trans (bq17.mono HD.out.size))
            clear bq17
            refine ⟨_, rfl, hSq17, ?_⟩
            replace hHeld := hSq17
            try simp only [Act.put, List.setIfInBounds_toArray, List.set_cons_zero, List.set_cons_succ]
            refine take_op (i := 12) (d := 39) (OP := Op.binOp BinOp.eql 3 (Operand.tmp 38) (Operand.const (Value.int IntKind.i64 0)) 3) (T := 4) (v := ?vy58x) rfl rfl rfl rfl (by kernel_rfl) (by kernel_rfl) (by kernel_rfl) (fun _ _ _ h => h) (by rfl) ?hy58x hHeld ?ry58x
            case hy58x => (intro w' hSw; (try dsimp only at hSw); go_simp <;> with_reducible rfl)
            try simp only [Act.put, List.setIfInBounds_toArray, List.set_cons_zero, List.set_cons_succ]
            refine take_op (i := 16) (d := 43) (OP := Op.binOp BinOp.neq 4 (Operand.tmp 39) (Operand.tmp 42) 4) (T := 4) (v := ?vy59x) rfl rfl rfl rfl (by kernel_rfl) (by kernel_rfl) (by kernel_rfl) (fun _ _ _ h => h) (by rfl) ?hy59x hHeld ?ry59x
            case hy59x => (intro w' hSw; (try dsimp only at hSw); go_simp <;> with_reducible rfl)
            try simp only [Act.put, List.setIfInBounds_toArray, List.set_cons_zero, List.set_cons_succ]
            refine take_op (i := 17) (d := 44) (OP := Op.pick (Operand.tmp 35) (Operand.const (Value.bool true)) (Operand.tmp 43)) (T := 4) (v := ?vy60x) rfl rfl rfl rfl (by kernel_rfl) (by kernel_rfl) (by kernel_rfl) (fun _ _ _ h => h) (by rfl) ?hy60x hHeld ?ry60x
            case hy60x => (intro w' hSw; (try dsimp only at hSw); go_simp <;> with_reducible rfl)
            try simp only [Act.put, List.setIfInBounds_toArray, List.set_cons_zero, List.set_cons_succ]
            refine take_op (i := 18) (d := 45) (OP := Op.move (Operand.tmp 44)) (T := 4) (v := ?vy61x) rfl rfl rfl rfl (by kernel_rfl) (by kernel_rfl) (by kernel_rfl) (fun _ _ _ h => h) (by rfl) ?hy61x hHeld ?ry61x
            case hy61x => (intro w' hSw; (try dsimp only at hSw); go_simp <;> with_reducible rfl)
            try simp only [Act.put, List.setIfInBounds_toArray, List.set_cons_zero, List.set_cons_succ]
            refine take_op (i := 19) (d := 46) (OP := Op.load 27 (Operand.tmp 3)) (T := 27) (v := sv g r l n x) rfl rfl rfl rfl (by kernel_rfl) (by kernel_rfl) (by kernel_rfl) (fun _ _ _ h => h) (by rfl) (fun w' hSw => exec_load27 rfl hSw.1) hHeld ?_
            try simp only [Act.put, List.setIfInBounds_toArray, List.set_cons_zero, List.set_cons_succ]
            refine take_op (i := 20) (d := 47) (OP := Op.load 27 (Operand.tmp 4)) (T := 27) (v := sv g' r' l' n' x') rfl rfl rfl rfl (by kernel_rfl) (by kernel_rfl) (by kernel_rfl) (fun _ _ _ h => h) (by rfl) (fun w' hSw => exec_load27 rfl hSw.2.1) hHeld ?_
            try simp only [Act.put, List.setIfInBounds_toArray, List.set_cons_zero, List.set_cons_succ]
            refine call_op (i := 21) (d := 48) (OP := Op.call { callee := Callee.value (Operand.func 50), args := #[Operand.tmp 46, Operand.tmp 47], argTypes := #[27, 27] }) (T := 3) (f := 50) (args := #[sv g r l n x, sv g' r' l' n' x']) rfl rfl rfl rfl (by kernel_rfl) (by rfl) (by go_simp) ?_
            refine (cab _).mono ?_
            rintro e q18 ⟨rfl, bq18⟩
            have hSq18 : q18.heap[w.heap.size]? = some (.cells #[.int .i64 g, .int .i64 r, .string l, .int .i64 n, .int .i64 x] 27) ∧ q18.heap[w.heap.size + 1]? = some (.cells #[.int .i64 g', .int .i64 r', .string l', .int .i64 n', .int .i64 x'] 27) ∧ q18.heap[w.heap.size + 1 + 1]? = some (.cells #[.int .i64 g2, .int .i64 r2, .string l2, .int .i64 n2, .int .i64 x2] 27) := ⟨keptB bq18 hHeld.1, keptB bq18 hHeld.2.1, keptB bq18 hHeld.2.2⟩
            replace HD := hide (HD.out.trans (bq18.mono HD.out.size))
            clear bq18
            refine ⟨_, rfl, hSq18, ?_⟩
            replace hHeld := hSq18
            try simp only [Act.put, List.setIfInBounds_toArray, List.set_cons_zero, List.set_cons_succ]
            refine take_op (i := 22) (d := 49) (OP := Op.binOp BinOp.leq 3 (Operand.tmp 48) (Operand.const (Value.int IntKind.i64 0)) 3) (T := 4) (v := ?vy62x) rfl rfl rfl rfl (by kernel_rfl) (by kernel_rfl) (by kernel_rfl) (fun _ _ _ h => h) (by rfl) ?hy62x hHeld ?ry62x
            case hy62x => (intro w' hSw; (try dsimp only at hSw); go_simp <;> with_reducible rfl)
            try simp only [Act.put, List.setIfInBounds_toArray, List.set_cons_zero, List.set_cons_succ]
            refine take_op (i := 23) (d := 50) (OP := Op.move (Operand.tmp 49)) (T := 4) (v := ?vy63x) rfl rfl rfl rfl (by kernel_rfl) (by kernel_rfl) (by kernel_rfl) (fun _ _ _ h => h) (by rfl) ?hy63x hHeld ?ry63x
            case hy63x => (intro w' hSw; (try dsimp only at hSw); go_simp <;> with_reducible rfl)
            try simp only [Act.put, List.setIfInBounds_toArray, List.set_cons_zero, List.set_cons_succ]
            refine take_op (i := 24) (d := 51) (OP := Op.load 27 (Operand.tmp 4)) (T := 27) (v := sv g' r' l' n' x') rfl rfl rfl rfl (by kernel_rfl) (by kernel_rfl) (by kernel_rfl) (fun _ _ _ h => h) (by rfl) (fun w' hSw => exec_load27 rfl hSw.2.1) hHeld ?_
            try simp only [Act.put, List.setIfInBounds_toArray, List.set_cons_zero, List.set_cons_succ]
            refine take_op (i := 25) (d := 52) (OP := Op.load 27 (Operand.tmp 5)) (T := 27) (v := sv g2 r2 l2 n2 x2) rfl rfl rfl rfl (by kernel_rfl) (by kernel_rfl) (by kernel_rfl) (fun _ _ _ h => h) (by rfl) (fun w' hSw => exec_load27 rfl hSw.2.2) hHeld ?_
            try simp only [Act.put, List.setIfInBounds_toArray, List.set_cons_zero, List.set_cons_succ]
            refine call_op (i := 26) (d := 53) (OP := Op.call { callee := Callee.value (Operand.func 50), args := #[Operand.tmp 51, Operand.tmp 52], argTypes := #[27, 27] }) (T := 3) (f := 50) (args := #[sv g' r' l' n' x', sv g2 r2 l2 n2 x2]) rfl rfl rfl rfl (by kernel_rfl) (by rfl) (by go_simp) ?_
            refine (cbc _).mono ?_
            rintro e q19 ⟨rfl, bq19⟩
            have hSq19 : q19.heap[w.heap.size]? = some (.cells #[.int .i64 g, .int .i64 r, .string l, .int .i64 n, .int .i64 x] 27) ∧ q19.heap[w.heap.size + 1]? = some (.cells #[.int .i64 g', .int .i64 r', .string l', .int .i64 n', .int .i64 x'] 27) ∧ q19.heap[w.heap.size + 1 + 1]? = some (.cells #[.int .i64 g2, .int .i64 r2, .string l2, .int .i64 n2, .int .i64 x2] 27) := ⟨keptB bq19 hHeld.1, keptB bq19 hHeld.2.1, keptB bq19 hHeld.2.2⟩
            replace HD := hide (HD.out.trans (bq19.mono HD.out.size))
            clear bq19
            refine ⟨_, rfl, hSq19, ?_⟩
            replace hHeld := hSq19
            try simp only [Act.put, List.setIfInBounds_toArray, List.set_cons_zero, List.set_cons_succ]
            refine take_op (i := 27) (d := 54) (OP := Op.binOp BinOp.leq 3 (Operand.tmp 53) (Operand.const (Value.int IntKind.i64 0)) 3) (T := 4) (v := ?vy64x) rfl rfl rfl rfl (by kernel_rfl) (by kernel_rfl) (by kernel_rfl) (fun _ _ _ h => h) (by rfl) ?hy64x hHeld ?ry64x
            case hy64x => (intro w' hSw; (try dsimp only at hSw); go_simp <;> with_reducible rfl)
            try simp only [Act.put, List.setIfInBounds_toArray, List.set_cons_zero, List.set_cons_succ]
            refine take_op (i := 28) (d := 55) (OP := Op.pick (Operand.tmp 50) (Operand.tmp 54) (Operand.const (Value.bool false))) (T := 4) (v := ?vy65x) rfl rfl rfl rfl (by kernel_rfl) (by kernel_rfl) (by kernel_rfl) (fun _ _ _ h => h) (by rfl) ?hy65x hHeld ?ry65x
            case hy65x => (intro w' hSw; (try dsimp only at hSw); go_simp <;> with_reducible rfl)
            try simp only [Act.put, List.setIfInBounds_toArray, List.set_cons_zero, List.set_cons_succ]
            refine take_op (i := 29) (d := 56) (OP := Op.move (Operand.tmp 55)) (T := 4) (v := ?vy66x) rfl rfl rfl rfl (by kernel_rfl) (by kernel_rfl) (by kernel_rfl) (fun _ _ _ h => h) (by rfl) ?hy66x hHeld ?ry66x
            case hy66x => (intro w' hSw; (try dsimp only at hSw); go_simp <;> with_reducible rfl)
            try simp only [Act.put, List.setIfInBounds_toArray, List.set_cons_zero, List.set_cons_succ]
            refine pass_op (i := 30) (d := 57) rfl rfl (by kernel_rfl) (by kernel_rfl) (by kernel_rfl) (fun _ _ _ h => h) (by rfl) hHeld ?_
            try simp only [Act.put, List.setIfInBounds_toArray, List.set_cons_zero, List.set_cons_succ]
            refine pass_op (i := 31) (d := 58) rfl rfl (by kernel_rfl) (by kernel_rfl) (by kernel_rfl) (fun _ _ _ h => h) (by rfl) hHeld ?_
            try simp only [Act.put, List.setIfInBounds_toArray, List.set_cons_zero, List.set_cons_succ]
            refine pass_op (i := 32) (d := 59) rfl rfl (by kernel_rfl) (by kernel_rfl) (by kernel_rfl) (fun _ _ _ h => h) (by rfl) hHeld ?_
            try simp only [Act.put, List.setIfInBounds_toArray, List.set_cons_zero, List.set_cons_succ]
            refine pass_op (i := 33) (d := 60) rfl rfl (by kernel_rfl) (by kernel_rfl) (by kernel_rfl) (fun _ _ _ h => h) (by rfl) hHeld ?_
            try simp only [Act.put, List.setIfInBounds_toArray, List.set_cons_zero, List.set_cons_succ]
            refine take_op (i := 34) (d := 61) (OP := Op.pick (Operand.tmp 56) (Operand.tmp 60) (Operand.const (Value.bool false))) (T := 4) (v := ?vy71x) rfl rfl rfl rfl (by kernel_rfl) (by kernel_rfl) (by kernel_rfl) (fun _ _ _ h => h) (by rfl) ?hy71x hHeld ?ry71x
            case hy71x => (intro w' hSw; (try dsimp only at hSw); go_simp <;> with_reducible rfl)
            try simp only [Act.put, List.setIfInBounds_toArray, List.set_cons_zero, List.set_cons_succ]
            refine take_op (i := 35) (d := 62) (OP := Op.pick (Operand.tmp 45) (Operand.const (Value.bool true)) (Operand.tmp 61)) (T := 4) (v := ?vy72x) rfl rfl rfl rfl (by kernel_rfl) (by kernel_rfl) (by kernel_rfl) (fun _ _ _ h => h) (by rfl) ?hy72x hHeld ?ry72x
            case hy72x => (intro w' hSw; (try dsimp only at hSw); go_simp <;> with_reducible rfl)
            try simp only [Act.put, List.setIfInBounds_toArray, List.set_cons_zero, List.set_cons_succ]
            refine take_op (i := 36) (d := 63) (OP := Op.move (Operand.tmp 62)) (T := 4) (v := ?vy73x) rfl rfl rfl rfl (by kernel_rfl) (by kernel_rfl) (by kernel_rfl) (fun _ _ _ h => h) (by rfl) ?hy73x hHeld ?ry73x
            case hy73x => (intro w' hSw; (try dsimp only at hSw); go_simp <;> with_reducible rfl)
            try simp only [Act.put, List.setIfInBounds_toArray, List.set_cons_zero, List.set_cons_succ]
            refine take_op (i := 37) (d := 64) (OP := Op.fieldAddr 27 (Operand.tmp 3) 0) (T := 0) (v := .pointer (some ⟨w.heap.size, 0, none⟩)) rfl rfl rfl rfl (by kernel_rfl) (by kernel_rfl) (by kernel_rfl) (fun _ _ _ h => h) (by rfl) (fun w' _ => exec_fa27_0 rfl) hHeld ?_
            try simp only [Act.put, List.setIfInBounds_toArray, List.set_cons_zero, List.set_cons_succ]
            refine take_op (i := 38) (d := 65) (OP := Op.load 2 (Operand.tmp 64)) (T := 2) (v := .int .i64 g) rfl rfl rfl rfl (by kernel_rfl) (by kernel_rfl) (by kernel_rfl) (fun _ _ _ h => h) (by rfl) (fun w' hSw => exec_load2 rfl (blk5 hSw.1).1) hHeld ?_
            try simp only [Act.put, List.setIfInBounds_toArray, List.set_cons_zero, List.set_cons_succ]
            refine take_op (i := 39) (d := 66) (OP := Op.fieldAddr 27 (Operand.tmp 4) 0) (T := 0) (v := .pointer (some ⟨w.heap.size + 1, 0, none⟩)) rfl rfl rfl rfl (by kernel_rfl) (by kernel_rfl) (by kernel_rfl) (fun _ _ _ h => h) (by rfl) (fun w' _ => exec_fa27_0 rfl) hHeld ?_
            try simp only [Act.put, List.setIfInBounds_toArray, List.set_cons_zero, List.set_cons_succ]
            refine take_op (i := 40) (d := 67) (OP := Op.load 2 (Operand.tmp 66)) (T := 2) (v := .int .i64 g') rfl rfl rfl rfl (by kernel_rfl) (by kernel_rfl) (by kernel_rfl) (fun _ _ _ h => h) (by rfl) (fun w' hSw => exec_load2 rfl (blk5 hSw.2.1).1) hHeld ?_
            try simp only [Act.put, List.setIfInBounds_toArray, List.set_cons_zero, List.set_cons_succ]
            refine take_op (i := 41) (d := 68) (OP := Op.binOp BinOp.lss 2 (Operand.tmp 65) (Operand.tmp 67) 2) (T := 4) (v := ?vy74x) rfl rfl rfl rfl (by kernel_rfl) (by kernel_rfl) (by kernel_rfl) (fun _ _ _ h => h) (by rfl) ?hy74x hHeld ?ry74x
            case hy74x => (intro w' hSw; (try dsimp only at hSw); go_simp <;> with_reducible rfl)
            try simp only [Act.put, List.setIfInBounds_toArray, List.set_cons_zero, List.set_cons_succ]
            refine take_op (i := 42) (d := 69) (OP := Op.move (Operand.tmp 68)) (T := 4) (v := ?vy75x) rfl rfl rfl rfl (by kernel_rfl) (by kernel_rfl) (by kernel_rfl) (fun _ _ _ h => h) (by rfl) ?hy75x hHeld ?ry75x
            case hy75x => (intro w' hSw; (try dsimp only at hSw); go_simp <;> with_reducible rfl)
            try simp only [Act.put, List.setIfInBounds_toArray, List.set_cons_zero, List.set_cons_succ]
            refine pass_op (i := 43) (d := 70) rfl rfl (by kernel_rfl) (by kernel_rfl) (by kernel_rfl) (fun _ _ _ h => h) (by rfl) hHeld ?_
            try simp only [Act.put, List.setIfInBounds_toArray, List.set_cons_zero, List.set_cons_succ]
            refine pass_op (i := 44) (d := 71) rfl rfl (by kernel_rfl) (by kernel_rfl) (by kernel_rfl) (fun _ _ _ h => h) (by rfl) hHeld ?_
            try simp only [Act.put, List.setIfInBounds_toArray, List.set_cons_zero, List.set_cons_succ]
            refine pass_op (i := 45) (d := 72) rfl rfl (by kernel_rfl) (by kernel_rfl) (by kernel_rfl) (fun _ _ _ h => h) (by rfl) hHeld ?_
            try simp only [Act.put, List.setIfInBounds_toArray, List.set_cons_zero, List.set_cons_succ]
            refine pass_op (i := 46) (d := 73) rfl rfl (by kernel_rfl) (by kernel_rfl) (by kernel_rfl) (fun _ _ _ h => h) (by rfl) hHeld ?_
            try simp only [Act.put, List.setIfInBounds_toArray, List.set_cons_zero, List.set_cons_succ]
            refine take_op (i := 47) (d := 74) (OP := Op.pick (Operand.tmp 69) (Operand.tmp 73) (Operand.const (Value.bool false))) (T := 4) (v := ?vy80x) rfl rfl rfl rfl (by kernel_rfl) (by kernel_rfl) (by kernel_rfl) (fun _ _ _ h => h) (by rfl) ?hy80x hHeld ?ry80x
            case hy80x => (intro w' hSw; (try dsimp only at hSw); go_simp <;> with_reducible rfl)
            try simp only [Act.put, List.setIfInBounds_toArray, List.set_cons_zero, List.set_cons_succ]
            refine take_op (i := 48) (d := 75) (OP := Op.pick (Operand.tmp 63) (Operand.const (Value.bool true)) (Operand.tmp 74)) (T := 4) (v := ?vy81x) rfl rfl rfl rfl (by kernel_rfl) (by kernel_rfl) (by kernel_rfl) (fun _ _ _ h => h) (by rfl) ?hy81x hHeld ?ry81x
            case hy81x => (intro w' hSw; (try dsimp only at hSw); go_simp <;> with_reducible rfl)
            try simp only [Act.put, List.setIfInBounds_toArray, List.set_cons_zero, List.set_cons_succ]
            refine wpAnyH_done (by kernel_rfl) ?_ _
            go_wp2
            go_meet
            exact ⟨rfl, hide ⟨hHeld, HD.out⟩⟩
      · have hg : ¬ g < g' := fun h => by have := gls h; omega
        clear gtr gls
        refine wp_region_held_drew (S := (fun w' => w'.heap[w.heap.size]? = some (.cells #[.int .i64 g, .int .i64 r, .string l, .int .i64 n, .int .i64 x] 27) ∧ w'.heap[w.heap.size + 1]? = some (.cells #[.int .i64 g', .int .i64 r', .string l', .int .i64 n', .int .i64 x'] 27) ∧ w'.heap[w.heap.size + 1 + 1]? = some (.cells #[.int .i64 g2, .int .i64 r2, .string l2, .int .i64 n2, .int .i64 x2] 27))) (by kernel_rfl) (by exact hS) (fun hHeld => ?_)
        try dsimp only at hHeld
        refine take_op (i := 0) (d := 27) (OP := Op.load 27 (Operand.tmp 3)) (T := 27) (v := sv g r l n x) rfl rfl rfl rfl (by kernel_rfl) (by kernel_rfl) (by kernel_rfl) (fun _ _ _ h => h) (by rfl) (fun w' hSw => exec_load27 rfl hSw.1) hHeld ?_
        try simp only [Act.put, List.setIfInBounds_toArray, List.set_cons_zero, List.set_cons_succ]
        refine take_op (i := 1) (d := 28) (OP := Op.load 27 (Operand.tmp 4)) (T := 27) (v := sv g' r' l' n' x') rfl rfl rfl rfl (by kernel_rfl) (by kernel_rfl) (by kernel_rfl) (fun _ _ _ h => h) (by rfl) (fun w' hSw => exec_load27 rfl hSw.2.1) hHeld ?_
        try simp only [Act.put, List.setIfInBounds_toArray, List.set_cons_zero, List.set_cons_succ]
        refine take_op (i := 3) (d := 30) (OP := Op.load 27 (Operand.tmp 4)) (T := 27) (v := sv g' r' l' n' x') rfl rfl rfl rfl (by kernel_rfl) (by kernel_rfl) (by kernel_rfl) (fun _ _ _ h => h) (by rfl) (fun w' hSw => exec_load27 rfl hSw.2.1) hHeld ?_
        try simp only [Act.put, List.setIfInBounds_toArray, List.set_cons_zero, List.set_cons_succ]
        refine take_op (i := 4) (d := 31) (OP := Op.load 27 (Operand.tmp 3)) (T := 27) (v := sv g r l n x) rfl rfl rfl rfl (by kernel_rfl) (by kernel_rfl) (by kernel_rfl) (fun _ _ _ h => h) (by rfl) (fun w' hSw => exec_load27 rfl hSw.1) hHeld ?_
        try simp only [Act.put, List.setIfInBounds_toArray, List.set_cons_zero, List.set_cons_succ]
        refine call_op (i := 2) (d := 29) (OP := Op.call { callee := Callee.value (Operand.func 50), args := #[Operand.tmp 27, Operand.tmp 28], argTypes := #[27, 27] }) (T := 3) (f := 50) (args := #[sv g r l n x, sv g' r' l' n' x']) rfl rfl rfl rfl (by kernel_rfl) (by rfl) (by go_simp) ?_
        refine (cab _).mono ?_
        rintro e q1 ⟨rfl, bq1⟩
        have hSq1 : q1.heap[w.heap.size]? = some (.cells #[.int .i64 g, .int .i64 r, .string l, .int .i64 n, .int .i64 x] 27) ∧ q1.heap[w.heap.size + 1]? = some (.cells #[.int .i64 g', .int .i64 r', .string l', .int .i64 n', .int .i64 x'] 27) ∧ q1.heap[w.heap.size + 1 + 1]? = some (.cells #[.int .i64 g2, .int .i64 r2, .string l2, .int .i64 n2, .int .i64 x2] 27) := ⟨keptB bq1 hHeld.1, keptB bq1 hHeld.2.1, keptB bq1 hHeld.2.2⟩
        replace HD := hide (HD.out.trans (bq1.mono HD.out.size))
        clear bq1
        refine ⟨_, rfl, hSq1, ?_⟩
        replace hHeld := hSq1
        try simp only [Act.put, List.setIfInBounds_toArray, List.set_cons_zero, List.set_cons_succ]
        refine call_op (i := 5) (d := 32) (OP := Op.call { callee := Callee.value (Operand.func 50), args := #[Operand.tmp 30, Operand.tmp 31], argTypes := #[27, 27] }) (T := 3) (f := 50) (args := #[sv g' r' l' n' x', sv g r l n x]) rfl rfl rfl rfl (by kernel_rfl) (by rfl) (by go_simp) ?_
        refine (cba _).mono ?_
        rintro e q2 ⟨rfl, bq2⟩
        have hSq2 : q2.heap[w.heap.size]? = some (.cells #[.int .i64 g, .int .i64 r, .string l, .int .i64 n, .int .i64 x] 27) ∧ q2.heap[w.heap.size + 1]? = some (.cells #[.int .i64 g', .int .i64 r', .string l', .int .i64 n', .int .i64 x'] 27) ∧ q2.heap[w.heap.size + 1 + 1]? = some (.cells #[.int .i64 g2, .int .i64 r2, .string l2, .int .i64 n2, .int .i64 x2] 27) := ⟨keptB bq2 hHeld.1, keptB bq2 hHeld.2.1, keptB bq2 hHeld.2.2⟩
        replace HD := hide (HD.out.trans (bq2.mono HD.out.size))
        clear bq2
        refine ⟨_, rfl, hSq2, ?_⟩
        replace hHeld := hSq2
        try simp only [Act.put, List.setIfInBounds_toArray, List.set_cons_zero, List.set_cons_succ]
        refine take_op (i := 6) (d := 33) (OP := Op.unOp UnOp.neg 3 (Operand.tmp 32)) (T := 3) (v := ?vy1x) rfl rfl rfl rfl (by kernel_rfl) (by kernel_rfl) (by kernel_rfl) (fun _ _ _ h => h) (by rfl) ?hy1x hHeld ?ry1x
        case hy1x => (intro w' hSw; (try dsimp only at hSw); go_simp <;> with_reducible rfl)
        try simp only [Act.put, List.setIfInBounds_toArray, List.set_cons_zero, List.set_cons_succ]
        refine take_op (i := 7) (d := 34) (OP := Op.binOp BinOp.neq 3 (Operand.tmp 29) (Operand.tmp 33) 3) (T := 4) (v := ?vy2x) rfl rfl rfl rfl (by kernel_rfl) (by kernel_rfl) (by kernel_rfl) (fun _ _ _ h => h) (by rfl) ?hy2x hHeld ?ry2x
        case hy2x => (intro w' hSw; (try dsimp only at hSw); go_simp <;> with_reducible rfl)
        try simp only [Act.put, List.setIfInBounds_toArray, List.set_cons_zero, List.set_cons_succ]
        refine take_op (i := 8) (d := 35) (OP := Op.move (Operand.tmp 34)) (T := 4) (v := ?vy3x) rfl rfl rfl rfl (by kernel_rfl) (by kernel_rfl) (by kernel_rfl) (fun _ _ _ h => h) (by rfl) ?hy3x hHeld ?ry3x
        case hy3x => (intro w' hSw; (try dsimp only at hSw); go_simp <;> with_reducible rfl)
        try simp only [Act.put, List.setIfInBounds_toArray, List.set_cons_zero, List.set_cons_succ]
        refine take_op (i := 9) (d := 36) (OP := Op.load 27 (Operand.tmp 3)) (T := 27) (v := sv g r l n x) rfl rfl rfl rfl (by kernel_rfl) (by kernel_rfl) (by kernel_rfl) (fun _ _ _ h => h) (by rfl) (fun w' hSw => exec_load27 rfl hSw.1) hHeld ?_
        try simp only [Act.put, List.setIfInBounds_toArray, List.set_cons_zero, List.set_cons_succ]
        refine take_op (i := 10) (d := 37) (OP := Op.load 27 (Operand.tmp 4)) (T := 27) (v := sv g' r' l' n' x') rfl rfl rfl rfl (by kernel_rfl) (by kernel_rfl) (by kernel_rfl) (fun _ _ _ h => h) (by rfl) (fun w' hSw => exec_load27 rfl hSw.2.1) hHeld ?_
        try simp only [Act.put, List.setIfInBounds_toArray, List.set_cons_zero, List.set_cons_succ]
        refine take_op (i := 13) (d := 40) (OP := Op.load 27 (Operand.tmp 3)) (T := 27) (v := sv g r l n x) rfl rfl rfl rfl (by kernel_rfl) (by kernel_rfl) (by kernel_rfl) (fun _ _ _ h => h) (by rfl) (fun w' hSw => exec_load27 rfl hSw.1) hHeld ?_
        try simp only [Act.put, List.setIfInBounds_toArray, List.set_cons_zero, List.set_cons_succ]
        refine take_op (i := 14) (d := 41) (OP := Op.load 27 (Operand.tmp 4)) (T := 27) (v := sv g' r' l' n' x') rfl rfl rfl rfl (by kernel_rfl) (by kernel_rfl) (by kernel_rfl) (fun _ _ _ h => h) (by rfl) (fun w' hSw => exec_load27 rfl hSw.2.1) hHeld ?_
        try simp only [Act.put, List.setIfInBounds_toArray, List.set_cons_zero, List.set_cons_succ]
        refine take_op (i := 15) (d := 42) (OP := Op.binOp BinOp.eql 27 (Operand.tmp 40) (Operand.tmp 41) 27) (T := 4) (v := .bool EQ) rfl rfl rfl rfl (by kernel_rfl) (by kernel_rfl) (by kernel_rfl) (fun _ _ _ h => h) (by rfl) (fun w' _ => exec_eqv rfl rfl e27) hHeld ?_
        try simp only [Act.put, List.setIfInBounds_toArray, List.set_cons_zero, List.set_cons_succ]
        refine call_op (i := 11) (d := 38) (OP := Op.call { callee := Callee.value (Operand.func 50), args := #[Operand.tmp 36, Operand.tmp 37], argTypes := #[27, 27] }) (T := 3) (f := 50) (args := #[sv g r l n x, sv g' r' l' n' x']) rfl rfl rfl rfl (by kernel_rfl) (by rfl) (by go_simp) ?_
        refine (cab _).mono ?_
        rintro e q3 ⟨rfl, bq3⟩
        have hSq3 : q3.heap[w.heap.size]? = some (.cells #[.int .i64 g, .int .i64 r, .string l, .int .i64 n, .int .i64 x] 27) ∧ q3.heap[w.heap.size + 1]? = some (.cells #[.int .i64 g', .int .i64 r', .string l', .int .i64 n', .int .i64 x'] 27) ∧ q3.heap[w.heap.size + 1 + 1]? = some (.cells #[.int .i64 g2, .int .i64 r2, .string l2, .int .i64 n2, .int .i64 x2] 27) := ⟨keptB bq3 hHeld.1, keptB bq3 hHeld.2.1, keptB bq3 hHeld.2.2⟩
        replace HD := hide (HD.out.trans (bq3.mono HD.out.size))
        clear bq3
        refine ⟨_, rfl, hSq3, ?_⟩
        replace hHeld := hSq3
        try simp only [Act.put, List.setIfInBounds_toArray, List.set_cons_zero, List.set_cons_succ]
        refine take_op (i := 12) (d := 39) (OP := Op.binOp BinOp.eql 3 (Operand.tmp 38) (Operand.const (Value.int IntKind.i64 0)) 3) (T := 4) (v := ?vy4x) rfl rfl rfl rfl (by kernel_rfl) (by kernel_rfl) (by kernel_rfl) (fun _ _ _ h => h) (by rfl) ?hy4x hHeld ?ry4x
        case hy4x => (intro w' hSw; (try dsimp only at hSw); go_simp <;> with_reducible rfl)
        try simp only [Act.put, List.setIfInBounds_toArray, List.set_cons_zero, List.set_cons_succ]
        refine take_op (i := 16) (d := 43) (OP := Op.binOp BinOp.neq 4 (Operand.tmp 39) (Operand.tmp 42) 4) (T := 4) (v := ?vy5x) rfl rfl rfl rfl (by kernel_rfl) (by kernel_rfl) (by kernel_rfl) (fun _ _ _ h => h) (by rfl) ?hy5x hHeld ?ry5x
        case hy5x => (intro w' hSw; (try dsimp only at hSw); go_simp <;> with_reducible rfl)
        try simp only [Act.put, List.setIfInBounds_toArray, List.set_cons_zero, List.set_cons_succ]
        refine take_op (i := 17) (d := 44) (OP := Op.pick (Operand.tmp 35) (Operand.const (Value.bool true)) (Operand.tmp 43)) (T := 4) (v := ?vy6x) rfl rfl rfl rfl (by kernel_rfl) (by kernel_rfl) (by kernel_rfl) (fun _ _ _ h => h) (by rfl) ?hy6x hHeld ?ry6x
        case hy6x => (intro w' hSw; (try dsimp only at hSw); go_simp <;> with_reducible rfl)
        try simp only [Act.put, List.setIfInBounds_toArray, List.set_cons_zero, List.set_cons_succ]
        refine take_op (i := 18) (d := 45) (OP := Op.move (Operand.tmp 44)) (T := 4) (v := ?vy7x) rfl rfl rfl rfl (by kernel_rfl) (by kernel_rfl) (by kernel_rfl) (fun _ _ _ h => h) (by rfl) ?hy7x hHeld ?ry7x
        case hy7x => (intro w' hSw; (try dsimp only at hSw); go_simp <;> with_reducible rfl)
        try simp only [Act.put, List.setIfInBounds_toArray, List.set_cons_zero, List.set_cons_succ]
        refine take_op (i := 19) (d := 46) (OP := Op.load 27 (Operand.tmp 3)) (T := 27) (v := sv g r l n x) rfl rfl rfl rfl (by kernel_rfl) (by kernel_rfl) (by kernel_rfl) (fun _ _ _ h => h) (by rfl) (fun w' hSw => exec_load27 rfl hSw.1) hHeld ?_
        try simp only [Act.put, List.setIfInBounds_toArray, List.set_cons_zero, List.set_cons_succ]
        refine take_op (i := 20) (d := 47) (OP := Op.load 27 (Operand.tmp 4)) (T := 27) (v := sv g' r' l' n' x') rfl rfl rfl rfl (by kernel_rfl) (by kernel_rfl) (by kernel_rfl) (fun _ _ _ h => h) (by rfl) (fun w' hSw => exec_load27 rfl hSw.2.1) hHeld ?_
        try simp only [Act.put, List.setIfInBounds_toArray, List.set_cons_zero, List.set_cons_succ]
        refine call_op (i := 21) (d := 48) (OP := Op.call { callee := Callee.value (Operand.func 50), args := #[Operand.tmp 46, Operand.tmp 47], argTypes := #[27, 27] }) (T := 3) (f := 50) (args := #[sv g r l n x, sv g' r' l' n' x']) rfl rfl rfl rfl (by kernel_rfl) (by rfl) (by go_simp) ?_
        refine (cab _).mono ?_
        rintro e q4 ⟨rfl, bq4⟩
        have hSq4 : q4.heap[w.heap.size]? = some (.cells #[.int .i64 g, .int .i64 r, .string l, .int .i64 n, .int .i64 x] 27) ∧ q4.heap[w.heap.size + 1]? = some (.cells #[.int .i64 g', .int .i64 r', .string l', .int .i64 n', .int .i64 x'] 27) ∧ q4.heap[w.heap.size + 1 + 1]? = some (.cells #[.int .i64 g2, .int .i64 r2, .string l2, .int .i64 n2, .int .i64 x2] 27) := ⟨keptB bq4 hHeld.1, keptB bq4 hHeld.2.1, keptB bq4 hHeld.2.2⟩
        replace HD := hide (HD.out.trans (bq4.mono HD.out.size))
        clear bq4
        refine ⟨_, rfl, hSq4, ?_⟩
        replace hHeld := hSq4
        try simp only [Act.put, List.setIfInBounds_toArray, List.set_cons_zero, List.set_cons_succ]
        refine take_op (i := 22) (d := 49) (OP := Op.binOp BinOp.leq 3 (Operand.tmp 48) (Operand.const (Value.int IntKind.i64 0)) 3) (T := 4) (v := ?vy8x) rfl rfl rfl rfl (by kernel_rfl) (by kernel_rfl) (by kernel_rfl) (fun _ _ _ h => h) (by rfl) ?hy8x hHeld ?ry8x
        case hy8x => (intro w' hSw; (try dsimp only at hSw); go_simp <;> with_reducible rfl)
        try simp only [Act.put, List.setIfInBounds_toArray, List.set_cons_zero, List.set_cons_succ]
        refine take_op (i := 23) (d := 50) (OP := Op.move (Operand.tmp 49)) (T := 4) (v := ?vy9x) rfl rfl rfl rfl (by kernel_rfl) (by kernel_rfl) (by kernel_rfl) (fun _ _ _ h => h) (by rfl) ?hy9x hHeld ?ry9x
        case hy9x => (intro w' hSw; (try dsimp only at hSw); go_simp <;> with_reducible rfl)
        try simp only [Act.put, List.setIfInBounds_toArray, List.set_cons_zero, List.set_cons_succ]
        refine pass_op (i := 24) (d := 51) rfl rfl (by kernel_rfl) (by kernel_rfl) (by kernel_rfl) (fun _ _ _ h => h) (by rfl) hHeld ?_
        try simp only [Act.put, List.setIfInBounds_toArray, List.set_cons_zero, List.set_cons_succ]
        refine pass_op (i := 25) (d := 52) rfl rfl (by kernel_rfl) (by kernel_rfl) (by kernel_rfl) (fun _ _ _ h => h) (by rfl) hHeld ?_
        try simp only [Act.put, List.setIfInBounds_toArray, List.set_cons_zero, List.set_cons_succ]
        refine pass_op (i := 26) (d := 53) rfl rfl (by kernel_rfl) (by kernel_rfl) (by kernel_rfl) (fun _ _ _ h => h) (by rfl) hHeld ?_
        try simp only [Act.put, List.setIfInBounds_toArray, List.set_cons_zero, List.set_cons_succ]
        refine pass_op (i := 27) (d := 54) rfl rfl (by kernel_rfl) (by kernel_rfl) (by kernel_rfl) (fun _ _ _ h => h) (by rfl) hHeld ?_
        try simp only [Act.put, List.setIfInBounds_toArray, List.set_cons_zero, List.set_cons_succ]
        refine take_op (i := 28) (d := 55) (OP := Op.pick (Operand.tmp 50) (Operand.tmp 54) (Operand.const (Value.bool false))) (T := 4) (v := ?vy14x) rfl rfl rfl rfl (by kernel_rfl) (by kernel_rfl) (by kernel_rfl) (fun _ _ _ h => h) (by rfl) ?hy14x hHeld ?ry14x
        case hy14x => (intro w' hSw; (try dsimp only at hSw); go_simp <;> with_reducible rfl)
        try simp only [Act.put, List.setIfInBounds_toArray, List.set_cons_zero, List.set_cons_succ]
        refine take_op (i := 29) (d := 56) (OP := Op.move (Operand.tmp 55)) (T := 4) (v := ?vy15x) rfl rfl rfl rfl (by kernel_rfl) (by kernel_rfl) (by kernel_rfl) (fun _ _ _ h => h) (by rfl) ?hy15x hHeld ?ry15x
        case hy15x => (intro w' hSw; (try dsimp only at hSw); go_simp <;> with_reducible rfl)
        try simp only [Act.put, List.setIfInBounds_toArray, List.set_cons_zero, List.set_cons_succ]
        refine pass_op (i := 30) (d := 57) rfl rfl (by kernel_rfl) (by kernel_rfl) (by kernel_rfl) (fun _ _ _ h => h) (by rfl) hHeld ?_
        try simp only [Act.put, List.setIfInBounds_toArray, List.set_cons_zero, List.set_cons_succ]
        refine pass_op (i := 31) (d := 58) rfl rfl (by kernel_rfl) (by kernel_rfl) (by kernel_rfl) (fun _ _ _ h => h) (by rfl) hHeld ?_
        try simp only [Act.put, List.setIfInBounds_toArray, List.set_cons_zero, List.set_cons_succ]
        refine pass_op (i := 32) (d := 59) rfl rfl (by kernel_rfl) (by kernel_rfl) (by kernel_rfl) (fun _ _ _ h => h) (by rfl) hHeld ?_
        try simp only [Act.put, List.setIfInBounds_toArray, List.set_cons_zero, List.set_cons_succ]
        refine pass_op (i := 33) (d := 60) rfl rfl (by kernel_rfl) (by kernel_rfl) (by kernel_rfl) (fun _ _ _ h => h) (by rfl) hHeld ?_
        try simp only [Act.put, List.setIfInBounds_toArray, List.set_cons_zero, List.set_cons_succ]
        refine take_op (i := 34) (d := 61) (OP := Op.pick (Operand.tmp 56) (Operand.tmp 60) (Operand.const (Value.bool false))) (T := 4) (v := ?vy20x) rfl rfl rfl rfl (by kernel_rfl) (by kernel_rfl) (by kernel_rfl) (fun _ _ _ h => h) (by rfl) ?hy20x hHeld ?ry20x
        case hy20x => (intro w' hSw; (try dsimp only at hSw); go_simp <;> with_reducible rfl)
        try simp only [Act.put, List.setIfInBounds_toArray, List.set_cons_zero, List.set_cons_succ]
        refine take_op (i := 35) (d := 62) (OP := Op.pick (Operand.tmp 45) (Operand.const (Value.bool true)) (Operand.tmp 61)) (T := 4) (v := ?vy21x) rfl rfl rfl rfl (by kernel_rfl) (by kernel_rfl) (by kernel_rfl) (fun _ _ _ h => h) (by rfl) ?hy21x hHeld ?ry21x
        case hy21x => (intro w' hSw; (try dsimp only at hSw); go_simp <;> with_reducible rfl)
        try simp only [Act.put, List.setIfInBounds_toArray, List.set_cons_zero, List.set_cons_succ]
        refine take_op (i := 36) (d := 63) (OP := Op.move (Operand.tmp 62)) (T := 4) (v := ?vy22x) rfl rfl rfl rfl (by kernel_rfl) (by kernel_rfl) (by kernel_rfl) (fun _ _ _ h => h) (by rfl) ?hy22x hHeld ?ry22x
        case hy22x => (intro w' hSw; (try dsimp only at hSw); go_simp <;> with_reducible rfl)
        try simp only [Act.put, List.setIfInBounds_toArray, List.set_cons_zero, List.set_cons_succ]
        refine take_op (i := 37) (d := 64) (OP := Op.fieldAddr 27 (Operand.tmp 3) 0) (T := 0) (v := .pointer (some ⟨w.heap.size, 0, none⟩)) rfl rfl rfl rfl (by kernel_rfl) (by kernel_rfl) (by kernel_rfl) (fun _ _ _ h => h) (by rfl) (fun w' _ => exec_fa27_0 rfl) hHeld ?_
        try simp only [Act.put, List.setIfInBounds_toArray, List.set_cons_zero, List.set_cons_succ]
        refine take_op (i := 38) (d := 65) (OP := Op.load 2 (Operand.tmp 64)) (T := 2) (v := .int .i64 g) rfl rfl rfl rfl (by kernel_rfl) (by kernel_rfl) (by kernel_rfl) (fun _ _ _ h => h) (by rfl) (fun w' hSw => exec_load2 rfl (blk5 hSw.1).1) hHeld ?_
        try simp only [Act.put, List.setIfInBounds_toArray, List.set_cons_zero, List.set_cons_succ]
        refine take_op (i := 39) (d := 66) (OP := Op.fieldAddr 27 (Operand.tmp 4) 0) (T := 0) (v := .pointer (some ⟨w.heap.size + 1, 0, none⟩)) rfl rfl rfl rfl (by kernel_rfl) (by kernel_rfl) (by kernel_rfl) (fun _ _ _ h => h) (by rfl) (fun w' _ => exec_fa27_0 rfl) hHeld ?_
        try simp only [Act.put, List.setIfInBounds_toArray, List.set_cons_zero, List.set_cons_succ]
        refine take_op (i := 40) (d := 67) (OP := Op.load 2 (Operand.tmp 66)) (T := 2) (v := .int .i64 g') rfl rfl rfl rfl (by kernel_rfl) (by kernel_rfl) (by kernel_rfl) (fun _ _ _ h => h) (by rfl) (fun w' hSw => exec_load2 rfl (blk5 hSw.2.1).1) hHeld ?_
        try simp only [Act.put, List.setIfInBounds_toArray, List.set_cons_zero, List.set_cons_succ]
        refine take_op (i := 41) (d := 68) (OP := Op.binOp BinOp.lss 2 (Operand.tmp 65) (Operand.tmp 67) 2) (T := 4) (v := ?vy23x) rfl rfl rfl rfl (by kernel_rfl) (by kernel_rfl) (by kernel_rfl) (fun _ _ _ h => h) (by rfl) ?hy23x hHeld ?ry23x
        case hy23x => (intro w' hSw; (try dsimp only at hSw); go_simp <;> with_reducible rfl)
        try simp only [Act.put, List.setIfInBounds_toArray, List.set_cons_zero, List.set_cons_succ]
        refine take_op (i := 42) (d := 69) (OP := Op.move (Operand.tmp 68)) (T := 4) (v := ?vy24x) rfl rfl rfl rfl (by kernel_rfl) (by kernel_rfl) (by kernel_rfl) (fun _ _ _ h => h) (by rfl) ?hy24x hHeld ?ry24x
        case hy24x => (intro w' hSw; (try dsimp only at hSw); go_simp <;> with_reducible rfl)
        try simp only [Act.put, List.setIfInBounds_toArray, List.set_cons_zero, List.set_cons_succ]
        refine pass_op (i := 43) (d := 70) rfl rfl (by kernel_rfl) (by kernel_rfl) (by kernel_rfl) (fun _ _ _ h => h) (by rfl) hHeld ?_
        try simp only [Act.put, List.setIfInBounds_toArray, List.set_cons_zero, List.set_cons_succ]
        refine pass_op (i := 44) (d := 71) rfl rfl (by kernel_rfl) (by kernel_rfl) (by kernel_rfl) (fun _ _ _ h => h) (by rfl) hHeld ?_
        try simp only [Act.put, List.setIfInBounds_toArray, List.set_cons_zero, List.set_cons_succ]
        refine pass_op (i := 45) (d := 72) rfl rfl (by kernel_rfl) (by kernel_rfl) (by kernel_rfl) (fun _ _ _ h => h) (by rfl) hHeld ?_
        try simp only [Act.put, List.setIfInBounds_toArray, List.set_cons_zero, List.set_cons_succ]
        refine pass_op (i := 46) (d := 73) rfl rfl (by kernel_rfl) (by kernel_rfl) (by kernel_rfl) (fun _ _ _ h => h) (by rfl) hHeld ?_
        try simp only [Act.put, List.setIfInBounds_toArray, List.set_cons_zero, List.set_cons_succ]
        refine take_op (i := 47) (d := 74) (OP := Op.pick (Operand.tmp 69) (Operand.tmp 73) (Operand.const (Value.bool false))) (T := 4) (v := ?vy29x) rfl rfl rfl rfl (by kernel_rfl) (by kernel_rfl) (by kernel_rfl) (fun _ _ _ h => h) (by rfl) ?hy29x hHeld ?ry29x
        case hy29x => (intro w' hSw; (try dsimp only at hSw); go_simp <;> with_reducible rfl)
        try simp only [Act.put, List.setIfInBounds_toArray, List.set_cons_zero, List.set_cons_succ]
        refine take_op (i := 48) (d := 75) (OP := Op.pick (Operand.tmp 63) (Operand.const (Value.bool true)) (Operand.tmp 74)) (T := 4) (v := ?vy30x) rfl rfl rfl rfl (by kernel_rfl) (by kernel_rfl) (by kernel_rfl) (fun _ _ _ h => h) (by rfl) ?hy30x hHeld ?ry30x
        case hy30x => (intro w' hSw; (try dsimp only at hSw); go_simp <;> with_reducible rfl)
        try simp only [Act.put, List.setIfInBounds_toArray, List.set_cons_zero, List.set_cons_succ]
        refine wpAnyH_done (by kernel_rfl) ?_ _
        go_wp2
        go_meet
        exact ⟨rfl, hide ⟨hHeld, HD.out⟩⟩
  case rest =>
  clear HO HD cba cbc cac gtr gls
  obtain ⟨rfl, HC⟩ := hcut
  have HO := hide HC.out.1
  have HD := hide HC.out.2
  clear HC
  obtain ⟨u0, u1, u2, u3, u4, _, _, _, _, _⟩ := blk5 HO.out.1
  obtain ⟨v0, v1, v2, v3, v4, _, _, _, _, _⟩ := blk5 HO.out.2.1
  have k16 : ∀ W, Calls Tryz.prog 16 #[sv g r l n x] W fun e w' => e = .returned (.tuple #[.string (if stampV g r l n x then keyS g r l n x else ⟨#[]⟩), .int .i64 (if stampV g r l n x then 0 else 2)]) ∧ Below W.heap.size W w' := fun W => key_any g r l n x W
  have m16 : ∀ W, Calls Tryz.prog 16 #[sv g' r' l' n' x'] W fun e w' => e = .returned (.tuple #[.string (if stampV g' r' l' n' x' then keyS g' r' l' n' x' else ⟨#[]⟩), .int .i64 (if stampV g' r' l' n' x' then 0 else 2)]) ∧ Below W.heap.size W w' := fun W => key_any g' r' l' n' x' W
  by_cases hv : stampV g r l n x = true ∧ stampV g' r' l' n' x' = true
  case neg =>
    obtain ⟨E1, E2, K1, K2, c1, c2, hE12⟩ : ∃ (E1 E2 : Int) (K1 K2 : ByteArray), (∀ W, Calls Tryz.prog 16 #[sv g r l n x] W fun e w' => e = .returned (.tuple #[.string K1, .int .i64 E1]) ∧ Below W.heap.size W w') ∧ (∀ W, Calls Tryz.prog 16 #[sv g' r' l' n' x'] W fun e w' => e = .returned (.tuple #[.string K2, .int .i64 E2]) ∧ Below W.heap.size W w') ∧ ((E1 = 2 ∧ E2 = 0) ∨ (E1 = 2 ∧ E2 = 2) ∨ (E1 = 0 ∧ E2 = 2)) := by
      refine ⟨_, _, _, _, k16, m16, ?_⟩
      by_cases h1 : stampV g r l n x = true
      · have h2 : ¬ stampV g' r' l' n' x' = true := fun h => hv ⟨h1, h⟩
        rw [if_pos h1, if_neg h2]; exact .inr (.inr ⟨rfl, rfl⟩)
      · rw [if_neg h1]
        by_cases h2 : stampV g' r' l' n' x' = true
        · rw [if_pos h2]; exact .inl ⟨rfl, rfl⟩
        · rw [if_neg h2]; exact .inr (.inl ⟨rfl, rfl⟩)
    clear k16 m16 hv
    have tka : True := trivial
    rcases hE12 with ⟨rfl, rfl⟩ | ⟨rfl, rfl⟩ | ⟨rfl, rfl⟩
    · go_wp2_with (go_at_call 16; clear tka; refine (c1 _).mono ?_; rintro e z1 ⟨rfl, b1⟩; replace HO := hide (HO.out.below b1); replace HD := hide (HD.out.trans (b1.mono HD.out.size)); clear b1 u0 u1 u2 u3 u4 v0 v1 v2 v3 v4; obtain ⟨u0, u1, u2, u3, u4, _, _, _, _, _⟩ := blk5 HO.out.1; obtain ⟨v0, v1, v2, v3, v4, _, _, _, _, _⟩ := blk5 HO.out.2.1; dsimp only)
      go_wp2_with (go_at_call 16; refine (c2 _).mono ?_; rintro e z2 ⟨rfl, b1⟩; replace HD := hide (HD.out.trans (b1.mono HD.out.size)); clear b1; dsimp only)
      go_wp2_with (go_at_call 26; refine (h26 _ _).mono ?_; rintro e zx ⟨rfl, hzx⟩; subst hzx; dsimp only)
      go_ret
      exact ⟨rfl, HD.out⟩
    · go_wp2_with (go_at_call 16; clear tka; refine (c1 _).mono ?_; rintro e z1 ⟨rfl, b1⟩; replace HO := hide (HO.out.below b1); replace HD := hide (HD.out.trans (b1.mono HD.out.size)); clear b1 u0 u1 u2 u3 u4 v0 v1 v2 v3 v4; obtain ⟨u0, u1, u2, u3, u4, _, _, _, _, _⟩ := blk5 HO.out.1; obtain ⟨v0, v1, v2, v3, v4, _, _, _, _, _⟩ := blk5 HO.out.2.1; dsimp only)
      go_wp2_with (go_at_call 16; refine (c2 _).mono ?_; rintro e z2 ⟨rfl, b1⟩; replace HD := hide (HD.out.trans (b1.mono HD.out.size)); clear b1; dsimp only)
      go_wp2_with (go_at_call 26; refine (h26 _ _).mono ?_; rintro e zx ⟨rfl, hzx⟩; subst hzx; dsimp only)
      go_ret
      exact ⟨rfl, HD.out⟩
    · go_wp2_with (go_at_call 16; clear tka; refine (c1 _).mono ?_; rintro e z1 ⟨rfl, b1⟩; replace HO := hide (HO.out.below b1); replace HD := hide (HD.out.trans (b1.mono HD.out.size)); clear b1 u0 u1 u2 u3 u4 v0 v1 v2 v3 v4; obtain ⟨u0, u1, u2, u3, u4, _, _, _, _, _⟩ := blk5 HO.out.1; obtain ⟨v0, v1, v2, v3, v4, _, _, _, _, _⟩ := blk5 HO.out.2.1; dsimp only)
      go_wp2_with (go_at_call 16; refine (c2 _).mono ?_; rintro e z2 ⟨rfl, b1⟩; replace HD := hide (HD.out.trans (b1.mono HD.out.size)); clear b1; dsimp only)
      go_wp2_with (go_at_call 26; refine (h26 _ _).mono ?_; rintro e zx ⟨rfl, hzx⟩; subst hzx; dsimp only)
      go_ret
      exact ⟨rfl, HD.out⟩
  case pos =>
  obtain ⟨hv1, hv2⟩ := hv
  rw [hv1] at k16
  rw [hv2] at m16
  have hab := HA.out.1
  have hEs := HA.out.2
  have hko := key_order hv1 hv2
  rw [← hab] at hko
  have hxl := stL_len hv1
  have hyl := stL_len hv2
  have hx8 := @stL_bytes g r n x l
  have p10 : ∀ W, Calls Tryz.prog 10 #[sv g r l n x] W fun e w' => (∃ a c, e = .returned (.tuple #[.slice a (stL g r l n x).length c, .int .i64 0]) ∧ Hid (Rd w' a (stL g r l n x) ∧ (a = none → c = 0))) ∧ Below W.heap.size W w' := fun W => (put_cap g r l n x W hv1).mono fun e w' ⟨a, c, h1, h2, h3, _, _, h6⟩ => ⟨⟨a, c, h1, hide ⟨h2, h3⟩⟩, h6⟩
  have q10 : ∀ W, Calls Tryz.prog 10 #[sv g' r' l' n' x'] W fun e w' => (∃ a c, e = .returned (.tuple #[.slice a (stL g' r' l' n' x').length c, .int .i64 0]) ∧ Hid (Rd w' a (stL g' r' l' n' x') ∧ (stL g' r' l' n' x').length ≤ c ∧ c ≤ 9223372036854775807)) ∧ Below W.heap.size W w' := fun W => (put_cap g' r' l' n' x' W hv2).mono fun e w' ⟨a, c, h1, h2, _, h4, h5, h6⟩ => ⟨⟨a, c, h1, hide ⟨h2, h4, h5⟩⟩, h6⟩
  have p13 : ∀ W, Below w.heap.size w W → Calls Tryz.prog 13 #[sv g r l n x] W fun e w' => e = .returned (.tuple #[.string (stT g r l n x), .int .i64 0]) ∧ Below W.heap.size W w' := fun W h => by
    have := text_any g r l n x W (hE.below h).env
    rw [hv1] at this
    exact this
  have q13 : ∀ W, Below w.heap.size w W → Calls Tryz.prog 13 #[sv g' r' l' n' x'] W fun e w' => e = .returned (.tuple #[.string (stT g' r' l' n' x'), .int .i64 0]) ∧ Below W.heap.size W w' := fun W h => by
    have := text_any g' r' l' n' x' W (hE.below h).env
    rw [hv2] at this
    exact this
  have p31 : ∀ W a c, Rd W a (stL g r l n x) → (a = none → c = 0) → Calls Tryz.prog 31 #[.slice a (stL g r l n x).length c] W fun e w' => ∃ R, e = .returned (.pointer (some ⟨R, 0, none⟩)) ∧ Rdr 91 w' R (R + 1) (stL g r l n x) ∧ W.heap.size ≤ R ∧ R + 1 = w'.heap.size ∧ Below W.heap.size W w' := fun W a c h1 h2 => open_any a c _ _ W rfl h1 h2 (by omega) hx8
  have p39 : ∀ W R, Rdr 91 W R (R + 1) (stL g r l n x) → R + 1 ≤ W.heap.size → Calls Tryz.prog 39 #[.pointer (some ⟨R, 0, none⟩)] W fun e w' => e = .returned (.tuple #[sv g r l n x, .int .i64 0]) ∧ RdL w' R [] ∧ Only (fun j => j = R) W w' := fun W R h1 h2 => by
    have := takeS_any R (R + 1) _ W h1 h2 (by omega)
    obtain ⟨e0, e1, e2, e3, e4, e5, e6⟩ := tkS_form hv1 []
    rw [List.append_nil] at e0 e1 e2 e3 e4 e5 e6
    rw [e0, e1, e2, e3, e4, e5, e6] at this
    exact this
  have p46 : ∀ W, Below w.heap.size w W → Calls Tryz.prog 46 #[.string (stT g r l n x)] W fun e w' => e = .returned (.tuple #[sv g r l n x, .int .i64 0]) ∧ Below W.heap.size W w' := fun W h => by
    have hts : (stT g r l n x).size ≤ 1000000 := by
      have hb := S_bounds hv1
      have a1 := decS_size g (by omega) (by omega)
      have a2 := decS_size r (by omega) (by omega)
      have a3 := decS_size n (by omega) (by omega)
      have a4 := decS_size x (by omega) (by omega)
      unfold stT nmT brT
      simp only [ByteArray.size_append]
      have : dotS.size = 1 := rfl
      omega
    have := parse_any (stT g r l n x) W hts (hE.below h)
    obtain ⟨e0, e1, e2, e3, e4, e5⟩ := ps_of hv1
    rw [e0, e1, e2, e3, e4, e5] at this
    exact this
  have h32 : ∀ W, RdL W = RdL W := fun W => rfl
  clear h32
  have hXY : ((strOfNums (stL g r l n x)).toList == (strOfNums (stL g' r' l' n' x')).toList) = EQ := by
    rw [Bool.eq_iff_iff, hEs, beq_iff_eq, ByteArray.toList_eq, ByteArray.toList_eq]
    constructor
    · intro h
      have e := strL_inj hx8 stL_bytes h
      exact stL_pre hv1 hv2 [] (by rw [List.append_nil]; exact e.symm)
    · intro h
      simp only [Prod.mk.injEq] at h
      obtain ⟨rfl, rfl, rfl, rfl, rfl⟩ := h
      rfl
  have hTT : ((stT g r l n x).toList == (stT g' r' l' n' x').toList) = EQ := by
    rw [Bool.eq_iff_iff, hEs, beq_iff_eq, ByteArray.toList_eq, ByteArray.toList_eq]
    constructor
    · intro h; exact stT_inj hv1 hv2 (ba_ext h)
    · intro h
      simp only [Prod.mk.injEq] at h
      obtain ⟨rfl, rfl, rfl, rfl, rfl⟩ := h
      rfl
  have hKK : ((keyS g r l n x).toList == (keyS g' r' l' n' x').toList) = EQ := by
    rw [← hEQ, Bool.eq_iff_iff, beq_iff_eq, beq_iff_eq, ByteArray.toList_eq, ByteArray.toList_eq, ← hko]
    constructor
    · intro h; rw [h]; exact (ord_B.refl (keyS g' r' l' n' x'))
    · exact cb_eq _ _
  have hKL : Op.bytesLess (keyS g r l n x).toList (keyS g' r' l' n' x').toList = decide (ab = -1) := by
    rw [less_cb, ByteArray.toList_eq, ByteArray.toList_eq, hko]
  have hPre : EQ = false → ((strOfNums ((stL g' r' l' n' x').take (stL g r l n x).length)).toList == (strOfNums (stL g r l n x)).toList) = false := fun he => by
    rw [beq_eq_false_iff_ne, ByteArray.toList_eq, ByteArray.toList_eq]
    intro h
    have e := strL_inj (fun y hy => stL_bytes y (List.mem_of_mem_take hy)) hx8 h
    have ht := (List.take_append_drop (stL g r l n x).length (stL g' r' l' n' x')).symm
    rw [e] at ht
    have := stL_pre hv1 hv2 _ ht
    rw [hEs.2 this] at he
    cases he
  rw [if_pos rfl, if_pos rfl] at k16 m16
  generalize keyS g r l n x = K1 at k16 hKK hKL hko
  generalize keyS g' r' l' n' x' = K2 at m16 hKK hKL hko
  generalize stT g r l n x = T1 at p13 p46 hTT
  generalize stT g' r' l' n' x' = T2 at q13 hTT
  generalize stL g r l n x = X at p10 p31 p39 hXY hPre hxl hx8
  generalize stL g' r' l' n' x' = Y at q10 hXY hPre hyl
  have rab := HR.out.1
  clear hab hEs hko hx8 HA HR hv1 hv2 hE
  have HP := hide hPre
  clear hPre
  have tka : True := trivial
  go_wp2_with (go_at_call 16; clear tka; refine (k16 _).mono ?_; rintro e z1 ⟨rfl, b1⟩; replace HO := hide (HO.out.below b1); replace HD := hide (HD.out.trans (b1.mono HD.out.size)); clear b1 u0 u1 u2 u3 u4 v0 v1 v2 v3 v4; obtain ⟨u0, u1, u2, u3, u4, _, _, _, _, _⟩ := blk5 HO.out.1; obtain ⟨v0, v1, v2, v3, v4, _, _, _, _, _⟩ := blk5 HO.out.2.1; dsimp only)
  go_wp2_with (go_at_call 16; refine (m16 _).mono ?_; rintro e z2 ⟨rfl, b1⟩; replace HO := hide (HO.out.below b1); replace HD := hide (HD.out.trans (b1.mono HD.out.size)); clear b1 u0 u1 u2 u3 u4 v0 v1 v2 v3 v4; obtain ⟨u0, u1, u2, u3, u4, _, _, _, _, _⟩ := blk5 HO.out.1; obtain ⟨v0, v1, v2, v3, v4, _, _, _, _, _⟩ := blk5 HO.out.2.1; dsimp only)
  go_wp2_with (go_at_call 26; refine (h26 0 _).mono ?_; rintro e zx ⟨rfl, hzx⟩; subst hzx; dsimp only)
  have tkb : True := trivial
  go_wp2_with (go_at_call 10; clear tkb; refine (p10 _).mono ?_; rintro e z3 ⟨⟨a11, c11, rfl, HX⟩, b1⟩; replace HO := hide (HO.out.below b1); replace HD := hide (HD.out.trans (b1.mono HD.out.size)); clear b1 u0 u1 u2 u3 u4 v0 v1 v2 v3 v4; obtain ⟨u0, u1, u2, u3, u4, _, _, _, _, _⟩ := blk5 HO.out.1; obtain ⟨v0, v1, v2, v3, v4, _, _, _, _, _⟩ := blk5 HO.out.2.1; dsimp only)
  go_wp2_with (go_at_call 10; refine (q10 _).mono ?_; rintro e z4 ⟨⟨a13, c13, rfl, HY⟩, b1⟩; replace HO := hide (HO.out.below b1); replace HD := hide (HD.out.trans (b1.mono HD.out.size)); have HB : Hid (BI w z4 a11 a13 X Y g r l n x g' r' l' n' x' g2 r2 l2 n2 x2) := hide ⟨HO.out, HD.out, HX.out.1.below b1, HY.out.1⟩; have HXn := hide HX.out.2; have HYc := hide HY.out.2; clear b1 HX HY u0 u1 u2 u3 u4 v0 v1 v2 v3 v4; obtain ⟨u0, u1, u2, u3, u4, _, _, _, _, _⟩ := blk5 HO.out.1; obtain ⟨v0, v1, v2, v3, v4, _, _, _, _, _⟩ := blk5 HO.out.2.1; dsimp only)
  have tkc : True := trivial
  go_wp2_with (go_at_call 13; clear tkc; refine (p13 _ HD.out).mono ?_; rintro e z5 ⟨rfl, b1⟩; replace HO := hide (HO.out.below b1); replace HB := hide (HB.out.below b1); replace HD := hide (HD.out.trans (b1.mono HD.out.size)); clear b1 u0 u1 u2 u3 u4 v0 v1 v2 v3 v4; obtain ⟨u0, u1, u2, u3, u4, _, _, _, _, _⟩ := blk5 HO.out.1; obtain ⟨v0, v1, v2, v3, v4, _, _, _, _, _⟩ := blk5 HO.out.2.1; dsimp only)
  go_wp2_with (go_at_call 13; refine (q13 _ HD.out).mono ?_; rintro e z6 ⟨rfl, b1⟩; replace HO := hide (HO.out.below b1); replace HB := hide (HB.out.below b1); replace HD := hide (HD.out.trans (b1.mono HD.out.size)); clear b1 u0 u1 u2 u3 u4 v0 v1 v2 v3 v4; obtain ⟨u0, u1, u2, u3, u4, _, _, _, _, _⟩ := blk5 HO.out.1; obtain ⟨v0, v1, v2, v3, v4, _, _, _, _, _⟩ := blk5 HO.out.2.1; dsimp only)
  go_wp2_with (go_at_call 31; refine (p31 _ a11 c11 HB.out.2.2.1 HXn.out).mono ?_; rintro e z7 ⟨RR, rfl, hR7, hs7, he7, b7⟩; have HR7 := hide (And.intro hR7 (And.intro hs7 (And.intro he7 b7))); clear hR7 hs7 he7 b7 u0 u1 u2 u3 u4 v0 v1 v2 v3 v4; dsimp only)
  go_wp2_with (go_at_call 26; refine (h26 0 _).mono ?_; rintro e zx ⟨rfl, hzx⟩; subst hzx; dsimp only)
  go_wp2_with (go_at_call 39; refine (p39 _ RR HR7.out.1 (Nat.le_of_eq HR7.out.2.2.1)).mono ?_; rintro e z8 ⟨rfl, hL8, o8⟩; have HB8 := hide (HB.out.below (Below.only HR7.out.2.2.2 o8 HR7.out.2.2.2.size (fun j hj => by (rw [hj]; exact HR7.out.2.1)))); have HL8 := hide hL8; clear o8 hL8 HR7 HB HO HD; dsimp only)
  go_upto_if 142 with (go_at_call 46; refine (p46 _ (HB8.out.2.1.alloc HB8.out.2.1.size (.cells #[.int .i64 g, .int .i64 r, .string l, .int .i64 n, .int .i64 x] 27))).mono ?_; rintro e z9 ⟨rfl, b9⟩; have HB9 := hide ((HB8.out.below (below_new z8 (.cells #[.int .i64 g, .int .i64 r, .string l, .int .i64 n, .int .i64 x] 27))).below b9); have HM1 := hide (keptB b9 (heap_alloc_new z8 (.cells #[.int .i64 g, .int .i64 r, .string l, .int .i64 n, .int .i64 x] 27))); have HL9 := hide (RdL.below (RdL.below HL8.out (below_new z8 (.cells #[.int .i64 g, .int .i64 r, .string l, .int .i64 n, .int .i64 x] 27))) b9); clear b9 HB8 HL8; dsimp only)
  have HM2 := hide (heap_alloc_new z9 (.cells #[.int .i64 g, .int .i64 r, .string l, .int .i64 n, .int .i64 x] 27))
  replace HM1 := hide (keptB (below_new z9 (.cells #[.int .i64 g, .int .i64 r, .string l, .int .i64 n, .int .i64 x] 27)) HM1.out)
  replace HB9 := hide (HB9.out.below (below_new z9 (.cells #[.int .i64 g, .int .i64 r, .string l, .int .i64 n, .int .i64 x] 27)))
  replace HL9 := hide (RdL.below HL9.out (below_new z9 (.cells #[.int .i64 g, .int .i64 r, .string l, .int .i64 n, .int .i64 x] 27)))
  generalize (z9.alloc (.cells #[.int .i64 g, .int .i64 r, .string l, .int .i64 n, .int .i64 x] 27)) = W9 at HM1 HM2 HB9 HL9 ⊢
  generalize z8.heap.size = B1 at HM1 ⊢
  generalize z9.heap.size = B2 at HM2 ⊢
  clear k16 m16 p10 q10 p13 q13 p31 p39 p46 HXn
  go_cut [24] (fun v24 wd => v24 = .int .i64 ab ∧ wd = W9)
  case first =>
    as_aux_lemma =>
      rcases rab with rfl | rfl | rfl
      · have hq : EQ = false := by rw [← hEQ]; rfl
        subst hq
        have hKM : Op.bytesLess K1.toList K2.toList = true := by rw [hKL]; rfl
        clear hKL
        go_wp2
        go_meet
        exact ⟨rfl, rfl⟩
      · have hq : EQ = true := by rw [← hEQ]; rfl
        subst hq
        go_wp2
        go_meet
        exact ⟨rfl, rfl⟩
      · have hq : EQ = false := by rw [← hEQ]; rfl
        subst hq
        have hKM : Op.bytesLess K1.toList K2.toList = false := by rw [hKL]; rfl
        clear hKL
        go_wp2
        go_meet
        exact ⟨rfl, rfl⟩
  case rest =>
  obtain ⟨rfl, hwd⟩ := hcut
  subst hwd
  clear hKK hKL rab
  have bd : Below wc.heap.size wc wc.drew := (Below.refl _ wc).drew
  have hS : wc.drew.heap[w.heap.size]? = some (.cells #[.int .i64 g, .int .i64 r, .string l, .int .i64 n, .int .i64 x] 27) ∧ wc.drew.heap[w.heap.size + 1]? = some (.cells #[.int .i64 g', .int .i64 r', .string l', .int .i64 n', .int .i64 x'] 27) ∧ wc.drew.heap[B1]? = some (.cells #[.int .i64 g, .int .i64 r, .string l, .int .i64 n, .int .i64 x] 27) ∧ wc.drew.heap[B2]? = some (.cells #[.int .i64 g, .int .i64 r, .string l, .int .i64 n, .int .i64 x] 27) ∧ Rd wc.drew a11 X ∧ Rd wc.drew a13 Y := ⟨keptB bd HB9.out.1.1, keptB bd HB9.out.1.2.1, keptB bd HM1.out, keptB bd HM2.out, HB9.out.2.2.1.below bd, HB9.out.2.2.2.below bd⟩
  have HL := hide (RdL.below HL9.out bd)
  have HD := hide (HB9.out.2.1.trans (bd.mono HB9.out.2.1.size))
  have h32 : ∀ W, RdL W RR [] → Calls Tryz.prog 32 #[.pointer (some ⟨RR, 0, none⟩)] W fun e w' => e = .returned (.int .i64 0) ∧ w' = W := fun W h => left_rdl RR [] W h
  clear HM1 HM2 HB9 HL9 bd
  go_upto_region 23 with fail
  refine wp_region_held_drew (S := (fun w' => w'.heap[w.heap.size]? = some (.cells #[.int .i64 g, .int .i64 r, .string l, .int .i64 n, .int .i64 x] 27) ∧ w'.heap[w.heap.size + 1]? = some (.cells #[.int .i64 g', .int .i64 r', .string l', .int .i64 n', .int .i64 x'] 27) ∧ w'.heap[B1]? = some (.cells #[.int .i64 g, .int .i64 r, .string l, .int .i64 n, .int .i64 x] 27) ∧ w'.heap[B2]? = some (.cells #[.int .i64 g, .int .i64 r, .string l, .int .i64 n, .int .i64 x] 27) ∧ Rd w' a11 X ∧ Rd w' a13 Y)) (by kernel_rfl) (by exact hS) (fun hHeld => ?_)
  try dsimp only at hHeld
  refine take_op (i := 0) (d := 146) (OP := Op.load 27 (Operand.tmp 20)) (T := 27) (v := sv g r l n x) rfl rfl rfl rfl (by kernel_rfl) (by kernel_rfl) (by kernel_rfl) (fun _ _ _ h => h) (by rfl) (fun w' hSw => exec_load27 rfl hSw.2.2.1) hHeld ?_
  try simp only [Act.put, List.setIfInBounds_toArray, List.set_cons_zero, List.set_cons_succ]
  refine take_op (i := 1) (d := 147) (OP := Op.load 27 (Operand.tmp 3)) (T := 27) (v := sv g r l n x) rfl rfl rfl rfl (by kernel_rfl) (by kernel_rfl) (by kernel_rfl) (fun _ _ _ h => h) (by rfl) (fun w' hSw => exec_load27 rfl hSw.1) hHeld ?_
  try simp only [Act.put, List.setIfInBounds_toArray, List.set_cons_zero, List.set_cons_succ]
  refine take_op (i := 2) (d := 148) (OP := Op.binOp BinOp.neq 27 (Operand.tmp 146) (Operand.tmp 147) 27) (T := 4) (v := .bool false) rfl rfl rfl rfl (by kernel_rfl) (by kernel_rfl) (by kernel_rfl) (fun _ _ _ h => h) (by rfl) (fun w' _ => exec_neqv rfl rfl n27) hHeld ?_
  try simp only [Act.put, List.setIfInBounds_toArray, List.set_cons_zero, List.set_cons_succ]
  refine take_op (i := 3) (d := 149) (OP := Op.move (Operand.tmp 148)) (T := 4) (v := ?vy127x) rfl rfl rfl rfl (by kernel_rfl) (by kernel_rfl) (by kernel_rfl) (fun _ _ _ h => h) (by rfl) ?hy127x hHeld ?ry127x
  case hy127x => (intro w' hSw; (try dsimp only at hSw); go_simp <;> with_reducible rfl)
  try simp only [Act.put, List.setIfInBounds_toArray, List.set_cons_zero, List.set_cons_succ]
  refine take_op (i := 4) (d := 150) (OP := Op.load 27 (Operand.tmp 22)) (T := 27) (v := sv g r l n x) rfl rfl rfl rfl (by kernel_rfl) (by kernel_rfl) (by kernel_rfl) (fun _ _ _ h => h) (by rfl) (fun w' hSw => exec_load27 rfl hSw.2.2.2.1) hHeld ?_
  try simp only [Act.put, List.setIfInBounds_toArray, List.set_cons_zero, List.set_cons_succ]
  refine take_op (i := 5) (d := 151) (OP := Op.load 27 (Operand.tmp 3)) (T := 27) (v := sv g r l n x) rfl rfl rfl rfl (by kernel_rfl) (by kernel_rfl) (by kernel_rfl) (fun _ _ _ h => h) (by rfl) (fun w' hSw => exec_load27 rfl hSw.1) hHeld ?_
  try simp only [Act.put, List.setIfInBounds_toArray, List.set_cons_zero, List.set_cons_succ]
  refine take_op (i := 6) (d := 152) (OP := Op.binOp BinOp.neq 27 (Operand.tmp 150) (Operand.tmp 151) 27) (T := 4) (v := .bool false) rfl rfl rfl rfl (by kernel_rfl) (by kernel_rfl) (by kernel_rfl) (fun _ _ _ h => h) (by rfl) (fun w' _ => exec_neqv rfl rfl n27) hHeld ?_
  try simp only [Act.put, List.setIfInBounds_toArray, List.set_cons_zero, List.set_cons_succ]
  refine take_op (i := 7) (d := 153) (OP := Op.pick (Operand.tmp 149) (Operand.const (Value.bool true)) (Operand.tmp 152)) (T := 4) (v := ?vy128x) rfl rfl rfl rfl (by kernel_rfl) (by kernel_rfl) (by kernel_rfl) (fun _ _ _ h => h) (by rfl) ?hy128x hHeld ?ry128x
  case hy128x => (intro w' hSw; (try dsimp only at hSw); go_simp <;> with_reducible rfl)
  try simp only [Act.put, List.setIfInBounds_toArray, List.set_cons_zero, List.set_cons_succ]
  refine take_op (i := 8) (d := 154) (OP := Op.move (Operand.tmp 153)) (T := 4) (v := ?vy129x) rfl rfl rfl rfl (by kernel_rfl) (by kernel_rfl) (by kernel_rfl) (fun _ _ _ h => h) (by rfl) ?hy129x hHeld ?ry129x
  case hy129x => (intro w' hSw; (try dsimp only at hSw); go_simp <;> with_reducible rfl)
  try simp only [Act.put, List.setIfInBounds_toArray, List.set_cons_zero, List.set_cons_succ]
  refine take_op (i := 9) (d := 155) (OP := Op.move (Operand.tmp 21)) (T := 30) (v := ?vy130x) rfl rfl rfl rfl (by kernel_rfl) (by kernel_rfl) (by kernel_rfl) (fun _ _ _ h => h) (by rfl) ?hy130x hHeld ?ry130x
  case hy130x => (intro w' hSw; (try dsimp only at hSw); go_simp <;> with_reducible rfl)
  try simp only [Act.put, List.setIfInBounds_toArray, List.set_cons_zero, List.set_cons_succ]
  refine take_op (i := 11) (d := 157) (OP := Op.move (Operand.tmp 23)) (T := 30) (v := ?vy131x) rfl rfl rfl rfl (by kernel_rfl) (by kernel_rfl) (by kernel_rfl) (fun _ _ _ h => h) (by rfl) ?hy131x hHeld ?ry131x
  case hy131x => (intro w' hSw; (try dsimp only at hSw); go_simp <;> with_reducible rfl)
  try simp only [Act.put, List.setIfInBounds_toArray, List.set_cons_zero, List.set_cons_succ]
  refine call_op (i := 10) (d := 156) (OP := Op.call { callee := Callee.value (Operand.func 26), args := #[Operand.tmp 155], argTypes := #[30] }) (T := 3) (f := 26) (args := #[.int .i64 0]) rfl rfl rfl rfl (by kernel_rfl) (by rfl) (by go_simp) ?_
  refine (h26 0 _).mono ?_
  rintro e wx ⟨rfl, rfl⟩
  refine ⟨_, rfl, hHeld, ?_⟩
  replace hHeld := hHeld
  try simp only [Act.put, List.setIfInBounds_toArray, List.set_cons_zero, List.set_cons_succ]
  refine call_op (i := 12) (d := 158) (OP := Op.call { callee := Callee.value (Operand.func 26), args := #[Operand.tmp 157], argTypes := #[30] }) (T := 3) (f := 26) (args := #[.int .i64 0]) rfl rfl rfl rfl (by kernel_rfl) (by rfl) (by go_simp) ?_
  refine (h26 0 _).mono ?_
  rintro e wx ⟨rfl, rfl⟩
  refine ⟨_, rfl, hHeld, ?_⟩
  replace hHeld := hHeld
  try simp only [Act.put, List.setIfInBounds_toArray, List.set_cons_zero, List.set_cons_succ]
  refine take_op (i := 13) (d := 159) (OP := Op.binOp BinOp.add 3 (Operand.tmp 156) (Operand.tmp 158) 3) (T := 3) (v := ?vy132x) rfl rfl rfl rfl (by kernel_rfl) (by kernel_rfl) (by kernel_rfl) (fun _ _ _ h => h) (by rfl) ?hy132x hHeld ?ry132x
  case hy132x => (intro w' hSw; (try dsimp only at hSw); go_simp <;> with_reducible rfl)
  try simp only [Act.put, List.setIfInBounds_toArray, List.set_cons_zero, List.set_cons_succ]
  refine take_op (i := 14) (d := 160) (OP := Op.binOp BinOp.neq 3 (Operand.tmp 159) (Operand.const (Value.int IntKind.i64 0)) 3) (T := 4) (v := ?vy133x) rfl rfl rfl rfl (by kernel_rfl) (by kernel_rfl) (by kernel_rfl) (fun _ _ _ h => h) (by rfl) ?hy133x hHeld ?ry133x
  case hy133x => (intro w' hSw; (try dsimp only at hSw); go_simp <;> with_reducible rfl)
  try simp only [Act.put, List.setIfInBounds_toArray, List.set_cons_zero, List.set_cons_succ]
  refine take_op (i := 15) (d := 161) (OP := Op.pick (Operand.tmp 154) (Operand.const (Value.bool true)) (Operand.tmp 160)) (T := 4) (v := ?vy134x) rfl rfl rfl rfl (by kernel_rfl) (by kernel_rfl) (by kernel_rfl) (fun _ _ _ h => h) (by rfl) ?hy134x hHeld ?ry134x
  case hy134x => (intro w' hSw; (try dsimp only at hSw); go_simp <;> with_reducible rfl)
  try simp only [Act.put, List.setIfInBounds_toArray, List.set_cons_zero, List.set_cons_succ]
  refine take_op (i := 16) (d := 162) (OP := Op.move (Operand.tmp 161)) (T := 4) (v := ?vy135x) rfl rfl rfl rfl (by kernel_rfl) (by kernel_rfl) (by kernel_rfl) (fun _ _ _ h => h) (by rfl) ?hy135x hHeld ?ry135x
  case hy135x => (intro w' hSw; (try dsimp only at hSw); go_simp <;> with_reducible rfl)
  try simp only [Act.put, List.setIfInBounds_toArray, List.set_cons_zero, List.set_cons_succ]
  refine take_op (i := 17) (d := 163) (OP := Op.move (Operand.tmp 19)) (T := 49) (v := ?vy136x) rfl rfl rfl rfl (by kernel_rfl) (by kernel_rfl) (by kernel_rfl) (fun _ _ _ h => h) (by rfl) ?hy136x hHeld ?ry136x
  case hy136x => (intro w' hSw; (try dsimp only at hSw); go_simp <;> with_reducible rfl)
  try simp only [Act.put, List.setIfInBounds_toArray, List.set_cons_zero, List.set_cons_succ]
  refine call_op (i := 18) (d := 164) (OP := Op.call { callee := Callee.value (Operand.func 32), args := #[Operand.tmp 163], argTypes := #[49] }) (T := 3) (f := 32) (args := #[.pointer (some ⟨RR, 0, none⟩)]) rfl rfl rfl rfl (by kernel_rfl) (by rfl) (by go_simp) ?_
  refine (h32 _ HL.out).mono ?_
  rintro e wx ⟨rfl, rfl⟩
  refine ⟨_, rfl, hHeld, ?_⟩
  replace hHeld := hHeld
  try simp only [Act.put, List.setIfInBounds_toArray, List.set_cons_zero, List.set_cons_succ]
  refine take_op (i := 19) (d := 165) (OP := Op.binOp BinOp.neq 3 (Operand.tmp 164) (Operand.const (Value.int IntKind.i64 0)) 3) (T := 4) (v := ?vy137x) rfl rfl rfl rfl (by kernel_rfl) (by kernel_rfl) (by kernel_rfl) (fun _ _ _ h => h) (by rfl) ?hy137x hHeld ?ry137x
  case hy137x => (intro w' hSw; (try dsimp only at hSw); go_simp <;> with_reducible rfl)
  try simp only [Act.put, List.setIfInBounds_toArray, List.set_cons_zero, List.set_cons_succ]
  refine take_op (i := 20) (d := 166) (OP := Op.pick (Operand.tmp 162) (Operand.const (Value.bool true)) (Operand.tmp 165)) (T := 4) (v := ?vy138x) rfl rfl rfl rfl (by kernel_rfl) (by kernel_rfl) (by kernel_rfl) (fun _ _ _ h => h) (by rfl) ?hy138x hHeld ?ry138x
  case hy138x => (intro w' hSw; (try dsimp only at hSw); go_simp <;> with_reducible rfl)
  try simp only [Act.put, List.setIfInBounds_toArray, List.set_cons_zero, List.set_cons_succ]
  refine take_op (i := 21) (d := 167) (OP := Op.move (Operand.tmp 166)) (T := 4) (v := ?vy139x) rfl rfl rfl rfl (by kernel_rfl) (by kernel_rfl) (by kernel_rfl) (fun _ _ _ h => h) (by rfl) ?hy139x hHeld ?ry139x
  case hy139x => (intro w' hSw; (try dsimp only at hSw); go_simp <;> with_reducible rfl)
  try simp only [Act.put, List.setIfInBounds_toArray, List.set_cons_zero, List.set_cons_succ]
  refine take_op (i := 22) (d := 168) (OP := Op.move (Operand.tmp 24)) (T := 3) (v := ?vy140x) rfl rfl rfl rfl (by kernel_rfl) (by kernel_rfl) (by kernel_rfl) (fun _ _ _ h => h) (by rfl) ?hy140x hHeld ?ry140x
  case hy140x => (intro w' hSw; (try dsimp only at hSw); go_simp <;> with_reducible rfl)
  try simp only [Act.put, List.setIfInBounds_toArray, List.set_cons_zero, List.set_cons_succ]
  refine take_op (i := 23) (d := 169) (OP := Op.load 27 (Operand.tmp 3)) (T := 27) (v := sv g r l n x) rfl rfl rfl rfl (by kernel_rfl) (by kernel_rfl) (by kernel_rfl) (fun _ _ _ h => h) (by rfl) (fun w' hSw => exec_load27 rfl hSw.1) hHeld ?_
  try simp only [Act.put, List.setIfInBounds_toArray, List.set_cons_zero, List.set_cons_succ]
  refine take_op (i := 24) (d := 170) (OP := Op.load 27 (Operand.tmp 4)) (T := 27) (v := sv g' r' l' n' x') rfl rfl rfl rfl (by kernel_rfl) (by kernel_rfl) (by kernel_rfl) (fun _ _ _ h => h) (by rfl) (fun w' hSw => exec_load27 rfl hSw.2.1) hHeld ?_
  try simp only [Act.put, List.setIfInBounds_toArray, List.set_cons_zero, List.set_cons_succ]
  refine call_op (i := 25) (d := 171) (OP := Op.call { callee := Callee.value (Operand.func 50), args := #[Operand.tmp 169, Operand.tmp 170], argTypes := #[27, 27] }) (T := 3) (f := 50) (args := #[sv g r l n x, sv g' r' l' n' x']) rfl rfl rfl rfl (by kernel_rfl) (by rfl) (by go_simp) ?_
  refine (cab _).mono ?_
  rintro e W9b ⟨rfl, bW9b⟩
  have hSW9b : W9b.heap[w.heap.size]? = some (.cells #[.int .i64 g, .int .i64 r, .string l, .int .i64 n, .int .i64 x] 27) ∧ W9b.heap[w.heap.size + 1]? = some (.cells #[.int .i64 g', .int .i64 r', .string l', .int .i64 n', .int .i64 x'] 27) ∧ W9b.heap[B1]? = some (.cells #[.int .i64 g, .int .i64 r, .string l, .int .i64 n, .int .i64 x] 27) ∧ W9b.heap[B2]? = some (.cells #[.int .i64 g, .int .i64 r, .string l, .int .i64 n, .int .i64 x] 27) ∧ Rd W9b a11 X ∧ Rd W9b a13 Y := ⟨keptB bW9b hHeld.1, keptB bW9b hHeld.2.1, keptB bW9b hHeld.2.2.1, keptB bW9b hHeld.2.2.2.1, hHeld.2.2.2.2.1.below bW9b, hHeld.2.2.2.2.2.below bW9b⟩
  replace HD := hide (HD.out.trans (bW9b.mono HD.out.size))
  clear bW9b
  refine ⟨_, rfl, hSW9b, ?_⟩
  replace hHeld := hSW9b
  try simp only [Act.put, List.setIfInBounds_toArray, List.set_cons_zero, List.set_cons_succ]
  refine take_op (i := 26) (d := 172) (OP := Op.binOp BinOp.neq 3 (Operand.tmp 168) (Operand.tmp 171) 3) (T := 4) (v := ?vy141x) rfl rfl rfl rfl (by kernel_rfl) (by kernel_rfl) (by kernel_rfl) (fun _ _ _ h => h) (by rfl) ?hy141x hHeld ?ry141x
  case hy141x => (intro w' hSw; (try dsimp only at hSw); go_simp <;> with_reducible rfl)
  try simp only [Act.put, List.setIfInBounds_toArray, List.set_cons_zero, List.set_cons_succ]
  refine take_op (i := 27) (d := 173) (OP := Op.pick (Operand.tmp 167) (Operand.const (Value.bool true)) (Operand.tmp 172)) (T := 4) (v := ?vy142x) rfl rfl rfl rfl (by kernel_rfl) (by kernel_rfl) (by kernel_rfl) (fun _ _ _ h => h) (by rfl) ?hy142x hHeld ?ry142x
  case hy142x => (intro w' hSw; (try dsimp only at hSw); go_simp <;> with_reducible rfl)
  try simp only [Act.put, List.setIfInBounds_toArray, List.set_cons_zero, List.set_cons_succ]
  refine take_op (i := 28) (d := 174) (OP := Op.move (Operand.tmp 173)) (T := 4) (v := ?vy143x) rfl rfl rfl rfl (by kernel_rfl) (by kernel_rfl) (by kernel_rfl) (fun _ _ _ h => h) (by rfl) ?hy143x hHeld ?ry143x
  case hy143x => (intro w' hSw; (try dsimp only at hSw); go_simp <;> with_reducible rfl)
  try simp only [Act.put, List.setIfInBounds_toArray, List.set_cons_zero, List.set_cons_succ]
  refine take_op (i := 29) (d := 175) (OP := Op.move (Operand.tmp 11)) (T := 29) (v := ?vy144x) rfl rfl rfl rfl (by kernel_rfl) (by kernel_rfl) (by kernel_rfl) (fun _ _ _ h => h) (by rfl) ?hy144x hHeld ?ry144x
  case hy144x => (intro w' hSw; (try dsimp only at hSw); go_simp <;> with_reducible rfl)
  try simp only [Act.put, List.setIfInBounds_toArray, List.set_cons_zero, List.set_cons_succ]
  refine take_op (i := 30) (d := 176) (OP := Op.convert 29 9 (Operand.tmp 175)) (T := 9) (v := .string (strOfNums X)) rfl rfl rfl rfl (by kernel_rfl) (by kernel_rfl) (by kernel_rfl) (fun _ _ _ h => h) (by rfl) (fun w' hSw => exec_conv2 (v := .slice a11 X.length c11) rfl (conv_rd (n := X.length) (cap := c11) hSw.2.2.2.2.1 rfl)) hHeld ?_
  try simp only [Act.put, List.setIfInBounds_toArray, List.set_cons_zero, List.set_cons_succ]
  refine take_op (i := 31) (d := 177) (OP := Op.move (Operand.tmp 13)) (T := 29) (v := ?vy145x) rfl rfl rfl rfl (by kernel_rfl) (by kernel_rfl) (by kernel_rfl) (fun _ _ _ h => h) (by rfl) ?hy145x hHeld ?ry145x
  case hy145x => (intro w' hSw; (try dsimp only at hSw); go_simp <;> with_reducible rfl)
  try simp only [Act.put, List.setIfInBounds_toArray, List.set_cons_zero, List.set_cons_succ]
  refine take_op (i := 32) (d := 178) (OP := Op.convert 29 9 (Operand.tmp 177)) (T := 9) (v := .string (strOfNums Y)) rfl rfl rfl rfl (by kernel_rfl) (by kernel_rfl) (by kernel_rfl) (fun _ _ _ h => h) (by rfl) (fun w' hSw => exec_conv2 (v := .slice a13 Y.length c13) rfl (conv_rd (n := Y.length) (cap := c13) hSw.2.2.2.2.2 rfl)) hHeld ?_
  try simp only [Act.put, List.setIfInBounds_toArray, List.set_cons_zero, List.set_cons_succ]
  refine take_op (i := 33) (d := 179) (OP := Op.binOp BinOp.eql 9 (Operand.tmp 176) (Operand.tmp 178) 9) (T := 4) (v := ?vy146x) rfl rfl rfl rfl (by kernel_rfl) (by kernel_rfl) (by kernel_rfl) (fun _ _ _ h => h) (by rfl) ?hy146x hHeld ?ry146x
  case hy146x => (intro w' hSw; (try dsimp only at hSw); go_simp <;> with_reducible rfl)
  try simp only [Act.put, List.setIfInBounds_toArray, List.set_cons_zero, List.set_cons_succ]
  refine take_op (i := 34) (d := 180) (OP := Op.load 27 (Operand.tmp 3)) (T := 27) (v := sv g r l n x) rfl rfl rfl rfl (by kernel_rfl) (by kernel_rfl) (by kernel_rfl) (fun _ _ _ h => h) (by rfl) (fun w' hSw => exec_load27 rfl hSw.1) hHeld ?_
  try simp only [Act.put, List.setIfInBounds_toArray, List.set_cons_zero, List.set_cons_succ]
  refine take_op (i := 35) (d := 181) (OP := Op.load 27 (Operand.tmp 4)) (T := 27) (v := sv g' r' l' n' x') rfl rfl rfl rfl (by kernel_rfl) (by kernel_rfl) (by kernel_rfl) (fun _ _ _ h => h) (by rfl) (fun w' hSw => exec_load27 rfl hSw.2.1) hHeld ?_
  try simp only [Act.put, List.setIfInBounds_toArray, List.set_cons_zero, List.set_cons_succ]
  refine take_op (i := 36) (d := 182) (OP := Op.binOp BinOp.eql 27 (Operand.tmp 180) (Operand.tmp 181) 27) (T := 4) (v := .bool EQ) rfl rfl rfl rfl (by kernel_rfl) (by kernel_rfl) (by kernel_rfl) (fun _ _ _ h => h) (by rfl) (fun w' _ => exec_eqv rfl rfl e27) hHeld ?_
  try simp only [Act.put, List.setIfInBounds_toArray, List.set_cons_zero, List.set_cons_succ]
  refine take_op (i := 37) (d := 183) (OP := Op.binOp BinOp.neq 4 (Operand.tmp 179) (Operand.tmp 182) 4) (T := 4) (v := ?vy147x) rfl rfl rfl rfl (by kernel_rfl) (by kernel_rfl) (by kernel_rfl) (fun _ _ _ h => h) (by rfl) ?hy147x hHeld ?ry147x
  case hy147x => (intro w' hSw; (try dsimp only at hSw); go_simp <;> with_reducible rfl)
  try simp only [Act.put, List.setIfInBounds_toArray, List.set_cons_zero, List.set_cons_succ]
  refine take_op (i := 38) (d := 184) (OP := Op.pick (Operand.tmp 174) (Operand.const (Value.bool true)) (Operand.tmp 183)) (T := 4) (v := ?vy148x) rfl rfl rfl rfl (by kernel_rfl) (by kernel_rfl) (by kernel_rfl) (fun _ _ _ h => h) (by rfl) ?hy148x hHeld ?ry148x
  case hy148x => (intro w' hSw; (try dsimp only at hSw); go_simp <;> with_reducible rfl)
  try simp only [Act.put, List.setIfInBounds_toArray, List.set_cons_zero, List.set_cons_succ]
  refine take_op (i := 39) (d := 185) (OP := Op.move (Operand.tmp 184)) (T := 4) (v := ?vy149x) rfl rfl rfl rfl (by kernel_rfl) (by kernel_rfl) (by kernel_rfl) (fun _ _ _ h => h) (by rfl) ?hy149x hHeld ?ry149x
  case hy149x => (intro w' hSw; (try dsimp only at hSw); go_simp <;> with_reducible rfl)
  try simp only [Act.put, List.setIfInBounds_toArray, List.set_cons_zero, List.set_cons_succ]
  refine take_op (i := 40) (d := 186) (OP := Op.move (Operand.tmp 15)) (T := 9) (v := ?vy150x) rfl rfl rfl rfl (by kernel_rfl) (by kernel_rfl) (by kernel_rfl) (fun _ _ _ h => h) (by rfl) ?hy150x hHeld ?ry150x
  case hy150x => (intro w' hSw; (try dsimp only at hSw); go_simp <;> with_reducible rfl)
  try simp only [Act.put, List.setIfInBounds_toArray, List.set_cons_zero, List.set_cons_succ]
  refine take_op (i := 41) (d := 187) (OP := Op.move (Operand.tmp 17)) (T := 9) (v := ?vy151x) rfl rfl rfl rfl (by kernel_rfl) (by kernel_rfl) (by kernel_rfl) (fun _ _ _ h => h) (by rfl) ?hy151x hHeld ?ry151x
  case hy151x => (intro w' hSw; (try dsimp only at hSw); go_simp <;> with_reducible rfl)
  try simp only [Act.put, List.setIfInBounds_toArray, List.set_cons_zero, List.set_cons_succ]
  refine take_op (i := 42) (d := 188) (OP := Op.binOp BinOp.eql 9 (Operand.tmp 186) (Operand.tmp 187) 9) (T := 4) (v := ?vy152x) rfl rfl rfl rfl (by kernel_rfl) (by kernel_rfl) (by kernel_rfl) (fun _ _ _ h => h) (by rfl) ?hy152x hHeld ?ry152x
  case hy152x => (intro w' hSw; (try dsimp only at hSw); go_simp <;> with_reducible rfl)
  try simp only [Act.put, List.setIfInBounds_toArray, List.set_cons_zero, List.set_cons_succ]
  refine take_op (i := 43) (d := 189) (OP := Op.load 27 (Operand.tmp 3)) (T := 27) (v := sv g r l n x) rfl rfl rfl rfl (by kernel_rfl) (by kernel_rfl) (by kernel_rfl) (fun _ _ _ h => h) (by rfl) (fun w' hSw => exec_load27 rfl hSw.1) hHeld ?_
  try simp only [Act.put, List.setIfInBounds_toArray, List.set_cons_zero, List.set_cons_succ]
  refine take_op (i := 44) (d := 190) (OP := Op.load 27 (Operand.tmp 4)) (T := 27) (v := sv g' r' l' n' x') rfl rfl rfl rfl (by kernel_rfl) (by kernel_rfl) (by kernel_rfl) (fun _ _ _ h => h) (by rfl) (fun w' hSw => exec_load27 rfl hSw.2.1) hHeld ?_
  try simp only [Act.put, List.setIfInBounds_toArray, List.set_cons_zero, List.set_cons_succ]
  refine take_op (i := 45) (d := 191) (OP := Op.binOp BinOp.eql 27 (Operand.tmp 189) (Operand.tmp 190) 27) (T := 4) (v := .bool EQ) rfl rfl rfl rfl (by kernel_rfl) (by kernel_rfl) (by kernel_rfl) (fun _ _ _ h => h) (by rfl) (fun w' _ => exec_eqv rfl rfl e27) hHeld ?_
  try simp only [Act.put, List.setIfInBounds_toArray, List.set_cons_zero, List.set_cons_succ]
  refine take_op (i := 46) (d := 192) (OP := Op.binOp BinOp.neq 4 (Operand.tmp 188) (Operand.tmp 191) 4) (T := 4) (v := ?vy153x) rfl rfl rfl rfl (by kernel_rfl) (by kernel_rfl) (by kernel_rfl) (fun _ _ _ h => h) (by rfl) ?hy153x hHeld ?ry153x
  case hy153x => (intro w' hSw; (try dsimp only at hSw); go_simp <;> with_reducible rfl)
  try simp only [Act.put, List.setIfInBounds_toArray, List.set_cons_zero, List.set_cons_succ]
  refine take_op (i := 47) (d := 193) (OP := Op.pick (Operand.tmp 185) (Operand.const (Value.bool true)) (Operand.tmp 192)) (T := 4) (v := ?vy154x) rfl rfl rfl rfl (by kernel_rfl) (by kernel_rfl) (by kernel_rfl) (fun _ _ _ h => h) (by rfl) ?hy154x hHeld ?ry154x
  case hy154x => (intro w' hSw; (try dsimp only at hSw); go_simp <;> with_reducible rfl)
  try simp only [Act.put, List.setIfInBounds_toArray, List.set_cons_zero, List.set_cons_succ]
  refine wpAnyH_done (by kernel_rfl) ?_ _
  clear hS HL h32 cab
  have hHeld' := hHeld
  clear hHeld
  go_upto_region 25 with fail
  have bd : Below W9b.heap.size W9b W9b.drew := (Below.refl _ W9b).drew
  have hS : W9b.drew.heap[w.heap.size]? = some (.cells #[.int .i64 g, .int .i64 r, .string l, .int .i64 n, .int .i64 x] 27) ∧ W9b.drew.heap[w.heap.size + 1]? = some (.cells #[.int .i64 g', .int .i64 r', .string l', .int .i64 n', .int .i64 x'] 27) ∧ Rd W9b.drew a11 X ∧ Rd W9b.drew a13 Y := ⟨keptB bd hHeld'.1, keptB bd hHeld'.2.1, hHeld'.2.2.2.2.1.below bd, hHeld'.2.2.2.2.2.below bd⟩
  have HDD := hide (HD.out.drew)
  clear hHeld' bd hXY hTT
  cases EQ with
  | true =>
    refine wp_region_held_drew (S := (fun w' => w'.heap[w.heap.size]? = some (.cells #[.int .i64 g, .int .i64 r, .string l, .int .i64 n, .int .i64 x] 27) ∧ w'.heap[w.heap.size + 1]? = some (.cells #[.int .i64 g', .int .i64 r', .string l', .int .i64 n', .int .i64 x'] 27) ∧ Rd w' a11 X ∧ Rd w' a13 Y)) (by kernel_rfl) (by exact hS) (fun hHeld => ?_)
    try dsimp only at hHeld
    refine take_op (i := 0) (d := 194) (OP := Op.load 27 (Operand.tmp 3)) (T := 27) (v := sv g r l n x) rfl rfl rfl rfl (by kernel_rfl) (by kernel_rfl) (by kernel_rfl) (fun _ _ _ h => h) (by rfl) (fun w' hSw => exec_load27 rfl hSw.1) hHeld ?_
    try simp only [Act.put, List.setIfInBounds_toArray, List.set_cons_zero, List.set_cons_succ]
    refine take_op (i := 1) (d := 195) (OP := Op.load 27 (Operand.tmp 4)) (T := 27) (v := sv g' r' l' n' x') rfl rfl rfl rfl (by kernel_rfl) (by kernel_rfl) (by kernel_rfl) (fun _ _ _ h => h) (by rfl) (fun w' hSw => exec_load27 rfl hSw.2.1) hHeld ?_
    try simp only [Act.put, List.setIfInBounds_toArray, List.set_cons_zero, List.set_cons_succ]
    refine take_op (i := 2) (d := 196) (OP := Op.binOp BinOp.eql 27 (Operand.tmp 194) (Operand.tmp 195) 27) (T := 4) (v := .bool true) rfl rfl rfl rfl (by kernel_rfl) (by kernel_rfl) (by kernel_rfl) (fun _ _ _ h => h) (by rfl) (fun w' _ => exec_eqv rfl rfl e27) hHeld ?_
    try simp only [Act.put, List.setIfInBounds_toArray, List.set_cons_zero, List.set_cons_succ]
    refine take_op (i := 3) (d := 197) (OP := Op.move (Operand.tmp 196)) (T := 4) (v := ?vy155x) rfl rfl rfl rfl (by kernel_rfl) (by kernel_rfl) (by kernel_rfl) (fun _ _ _ h => h) (by rfl) ?hy155x hHeld ?ry155x
    case hy155x => (intro w' hSw; (try dsimp only at hSw); go_simp <;> with_reducible rfl)
    try simp only [Act.put, List.setIfInBounds_toArray, List.set_cons_zero, List.set_cons_succ]
    refine pass_op (i := 4) (d := 198) rfl rfl (by kernel_rfl) (by kernel_rfl) (by kernel_rfl) (fun _ _ _ h => h) (by rfl) hHeld ?_
    try simp only [Act.put, List.setIfInBounds_toArray, List.set_cons_zero, List.set_cons_succ]
    refine pass_op (i := 5) (d := 199) rfl rfl (by kernel_rfl) (by kernel_rfl) (by kernel_rfl) (fun _ _ _ h => h) (by rfl) hHeld ?_
    try simp only [Act.put, List.setIfInBounds_toArray, List.set_cons_zero, List.set_cons_succ]
    refine pass_op (i := 6) (d := 200) rfl rfl (by kernel_rfl) (by kernel_rfl) (by kernel_rfl) (fun _ _ _ h => h) (by rfl) hHeld ?_
    try simp only [Act.put, List.setIfInBounds_toArray, List.set_cons_zero, List.set_cons_succ]
    refine pass_op (i := 7) (d := 201) rfl rfl (by kernel_rfl) (by kernel_rfl) (by kernel_rfl) (fun _ _ _ h => h) (by rfl) hHeld ?_
    try simp only [Act.put, List.setIfInBounds_toArray, List.set_cons_zero, List.set_cons_succ]
    refine pass_op (i := 8) (d := 202) rfl rfl (by kernel_rfl) (by kernel_rfl) (by kernel_rfl) (fun _ _ _ h => h) (by rfl) hHeld ?_
    try simp only [Act.put, List.setIfInBounds_toArray, List.set_cons_zero, List.set_cons_succ]
    refine take_op (i := 9) (d := 203) (OP := Op.pick (Operand.tmp 197) (Operand.const (Value.bool true)) (Operand.tmp 202)) (T := 4) (v := ?vy161x) rfl rfl rfl rfl (by kernel_rfl) (by kernel_rfl) (by kernel_rfl) (fun _ _ _ h => h) (by rfl) ?hy161x hHeld ?ry161x
    case hy161x => (intro w' hSw; (try dsimp only at hSw); go_simp <;> with_reducible rfl)
    try simp only [Act.put, List.setIfInBounds_toArray, List.set_cons_zero, List.set_cons_succ]
    refine take_op (i := 10) (d := 204) (OP := Op.move (Operand.tmp 203)) (T := 4) (v := ?vy162x) rfl rfl rfl rfl (by kernel_rfl) (by kernel_rfl) (by kernel_rfl) (fun _ _ _ h => h) (by rfl) ?hy162x hHeld ?ry162x
    case hy162x => (intro w' hSw; (try dsimp only at hSw); go_simp <;> with_reducible rfl)
    try simp only [Act.put, List.setIfInBounds_toArray, List.set_cons_zero, List.set_cons_succ]
    refine pass_op (i := 11) (d := 205) rfl rfl (by kernel_rfl) (by kernel_rfl) (by kernel_rfl) (fun _ _ _ h => h) (by rfl) hHeld ?_
    try simp only [Act.put, List.setIfInBounds_toArray, List.set_cons_zero, List.set_cons_succ]
    refine pass_op (i := 12) (d := 206) rfl rfl (by kernel_rfl) (by kernel_rfl) (by kernel_rfl) (fun _ _ _ h => h) (by rfl) hHeld ?_
    try simp only [Act.put, List.setIfInBounds_toArray, List.set_cons_zero, List.set_cons_succ]
    refine pass_op (i := 13) (d := 207) rfl rfl (by kernel_rfl) (by kernel_rfl) (by kernel_rfl) (fun _ _ _ h => h) (by rfl) hHeld ?_
    try simp only [Act.put, List.setIfInBounds_toArray, List.set_cons_zero, List.set_cons_succ]
    refine pass_op (i := 14) (d := 208) rfl rfl (by kernel_rfl) (by kernel_rfl) (by kernel_rfl) (fun _ _ _ h => h) (by rfl) hHeld ?_
    try simp only [Act.put, List.setIfInBounds_toArray, List.set_cons_zero, List.set_cons_succ]
    refine pass_op (i := 15) (d := 209) rfl rfl (by kernel_rfl) (by kernel_rfl) (by kernel_rfl) (fun _ _ _ h => h) (by rfl) hHeld ?_
    try simp only [Act.put, List.setIfInBounds_toArray, List.set_cons_zero, List.set_cons_succ]
    refine pass_op (i := 16) (d := 210) rfl rfl (by kernel_rfl) (by kernel_rfl) (by kernel_rfl) (fun _ _ _ h => h) (by rfl) hHeld ?_
    try simp only [Act.put, List.setIfInBounds_toArray, List.set_cons_zero, List.set_cons_succ]
    refine pass_op (i := 17) (d := 211) rfl rfl (by kernel_rfl) (by kernel_rfl) (by kernel_rfl) (fun _ _ _ h => h) (by rfl) hHeld ?_
    try simp only [Act.put, List.setIfInBounds_toArray, List.set_cons_zero, List.set_cons_succ]
    refine pass_op (i := 18) (d := 212) rfl rfl (by kernel_rfl) (by kernel_rfl) (by kernel_rfl) (fun _ _ _ h => h) (by rfl) hHeld ?_
    try simp only [Act.put, List.setIfInBounds_toArray, List.set_cons_zero, List.set_cons_succ]
    refine take_op (i := 19) (d := 213) (OP := Op.pick (Operand.tmp 204) (Operand.const (Value.bool true)) (Operand.tmp 212)) (T := 4) (v := ?vy171x) rfl rfl rfl rfl (by kernel_rfl) (by kernel_rfl) (by kernel_rfl) (fun _ _ _ h => h) (by rfl) ?hy171x hHeld ?ry171x
    case hy171x => (intro w' hSw; (try dsimp only at hSw); go_simp <;> with_reducible rfl)
    try simp only [Act.put, List.setIfInBounds_toArray, List.set_cons_zero, List.set_cons_succ]
    refine take_op (i := 20) (d := 6) (OP := Op.assign (Operand.tmp 213)) (T := 4) (v := ?vy172x) rfl rfl rfl rfl (by kernel_rfl) (by kernel_rfl) (by kernel_rfl) (fun _ _ _ h => h) (by rfl) ?hy172x hHeld ?ry172x
    case hy172x => (intro w' hSw; (try dsimp only at hSw); go_simp <;> with_reducible rfl)
    try simp only [Act.put, List.setIfInBounds_toArray, List.set_cons_zero, List.set_cons_succ]
    refine wpAnyH_done (by kernel_rfl) ?_ _
    go_wp2
    go_ret
    exact ⟨rfl, HDD.out⟩
  | false =>
    have hpre := HP.out rfl
    by_cases hlen : Y.length < X.length
    · have hl2 : (Y.length : Int) < (X.length : Int) := by omega
      refine wp_region_held_drew (S := (fun w' => w'.heap[w.heap.size]? = some (.cells #[.int .i64 g, .int .i64 r, .string l, .int .i64 n, .int .i64 x] 27) ∧ w'.heap[w.heap.size + 1]? = some (.cells #[.int .i64 g', .int .i64 r', .string l', .int .i64 n', .int .i64 x'] 27) ∧ Rd w' a11 X ∧ Rd w' a13 Y)) (by kernel_rfl) (by exact hS) (fun hHeld => ?_)
      try dsimp only at hHeld
      refine take_op (i := 0) (d := 194) (OP := Op.load 27 (Operand.tmp 3)) (T := 27) (v := sv g r l n x) rfl rfl rfl rfl (by kernel_rfl) (by kernel_rfl) (by kernel_rfl) (fun _ _ _ h => h) (by rfl) (fun w' hSw => exec_load27 rfl hSw.1) hHeld ?_
      try simp only [Act.put, List.setIfInBounds_toArray, List.set_cons_zero, List.set_cons_succ]
      refine take_op (i := 1) (d := 195) (OP := Op.load 27 (Operand.tmp 4)) (T := 27) (v := sv g' r' l' n' x') rfl rfl rfl rfl (by kernel_rfl) (by kernel_rfl) (by kernel_rfl) (fun _ _ _ h => h) (by rfl) (fun w' hSw => exec_load27 rfl hSw.2.1) hHeld ?_
      try simp only [Act.put, List.setIfInBounds_toArray, List.set_cons_zero, List.set_cons_succ]
      refine take_op (i := 2) (d := 196) (OP := Op.binOp BinOp.eql 27 (Operand.tmp 194) (Operand.tmp 195) 27) (T := 4) (v := .bool false) rfl rfl rfl rfl (by kernel_rfl) (by kernel_rfl) (by kernel_rfl) (fun _ _ _ h => h) (by rfl) (fun w' _ => exec_eqv rfl rfl e27) hHeld ?_
      try simp only [Act.put, List.setIfInBounds_toArray, List.set_cons_zero, List.set_cons_succ]
      refine take_op (i := 3) (d := 197) (OP := Op.move (Operand.tmp 196)) (T := 4) (v := ?vy173x) rfl rfl rfl rfl (by kernel_rfl) (by kernel_rfl) (by kernel_rfl) (fun _ _ _ h => h) (by rfl) ?hy173x hHeld ?ry173x
      case hy173x => (intro w' hSw; (try dsimp only at hSw); go_simp <;> with_reducible rfl)
      try simp only [Act.put, List.setIfInBounds_toArray, List.set_cons_zero, List.set_cons_succ]
      refine take_op (i := 4) (d := 198) (OP := Op.move (Operand.tmp 11)) (T := 29) (v := ?vy174x) rfl rfl rfl rfl (by kernel_rfl) (by kernel_rfl) (by kernel_rfl) (fun _ _ _ h => h) (by rfl) ?hy174x hHeld ?ry174x
      case hy174x => (intro w' hSw; (try dsimp only at hSw); go_simp <;> with_reducible rfl)
      try simp only [Act.put, List.setIfInBounds_toArray, List.set_cons_zero, List.set_cons_succ]
      refine take_op (i := 5) (d := 199) (OP := Op.call { callee := Callee.builtin Builtin.len, args := #[Operand.tmp 198], argTypes := #[29] }) (T := 3) (v := ?vy175x) rfl rfl rfl rfl (by kernel_rfl) (by kernel_rfl) (by kernel_rfl) (fun _ _ _ h => h) (by rfl) ?hy175x hHeld ?ry175x
      case hy175x => (intro w' hSw; (try dsimp only at hSw); go_simp <;> with_reducible rfl)
      try simp only [Act.put, List.setIfInBounds_toArray, List.set_cons_zero, List.set_cons_succ]
      refine take_op (i := 6) (d := 200) (OP := Op.move (Operand.tmp 13)) (T := 29) (v := ?vy176x) rfl rfl rfl rfl (by kernel_rfl) (by kernel_rfl) (by kernel_rfl) (fun _ _ _ h => h) (by rfl) ?hy176x hHeld ?ry176x
      case hy176x => (intro w' hSw; (try dsimp only at hSw); go_simp <;> with_reducible rfl)
      try simp only [Act.put, List.setIfInBounds_toArray, List.set_cons_zero, List.set_cons_succ]
      refine take_op (i := 7) (d := 201) (OP := Op.call { callee := Callee.builtin Builtin.len, args := #[Operand.tmp 200], argTypes := #[29] }) (T := 3) (v := ?vy177x) rfl rfl rfl rfl (by kernel_rfl) (by kernel_rfl) (by kernel_rfl) (fun _ _ _ h => h) (by rfl) ?hy177x hHeld ?ry177x
      case hy177x => (intro w' hSw; (try dsimp only at hSw); go_simp <;> with_reducible rfl)
      try simp only [Act.put, List.setIfInBounds_toArray, List.set_cons_zero, List.set_cons_succ]
      refine take_op (i := 8) (d := 202) (OP := Op.binOp BinOp.gtr 3 (Operand.tmp 199) (Operand.tmp 201) 3) (T := 4) (v := ?vy178x) rfl rfl rfl rfl (by kernel_rfl) (by kernel_rfl) (by kernel_rfl) (fun _ _ _ h => h) (by rfl) ?hy178x hHeld ?ry178x
      case hy178x => (intro w' hSw; (try dsimp only at hSw); go_simp <;> with_reducible rfl)
      try simp only [Act.put, List.setIfInBounds_toArray, List.set_cons_zero, List.set_cons_succ]
      refine take_op (i := 9) (d := 203) (OP := Op.pick (Operand.tmp 197) (Operand.const (Value.bool true)) (Operand.tmp 202)) (T := 4) (v := ?vy179x) rfl rfl rfl rfl (by kernel_rfl) (by kernel_rfl) (by kernel_rfl) (fun _ _ _ h => h) (by rfl) ?hy179x hHeld ?ry179x
      case hy179x => (intro w' hSw; (try dsimp only at hSw); go_simp <;> with_reducible rfl)
      try simp only [Act.put, List.setIfInBounds_toArray, List.set_cons_zero, List.set_cons_succ]
      refine take_op (i := 10) (d := 204) (OP := Op.move (Operand.tmp 203)) (T := 4) (v := ?vy180x) rfl rfl rfl rfl (by kernel_rfl) (by kernel_rfl) (by kernel_rfl) (fun _ _ _ h => h) (by rfl) ?hy180x hHeld ?ry180x
      case hy180x => (intro w' hSw; (try dsimp only at hSw); go_simp <;> with_reducible rfl)
      try simp only [Act.put, List.setIfInBounds_toArray, List.set_cons_zero, List.set_cons_succ]
      refine pass_op (i := 11) (d := 205) rfl rfl (by kernel_rfl) (by kernel_rfl) (by kernel_rfl) (fun _ _ _ h => h) (by rfl) hHeld ?_
      try simp only [Act.put, List.setIfInBounds_toArray, List.set_cons_zero, List.set_cons_succ]
      refine pass_op (i := 12) (d := 206) rfl rfl (by kernel_rfl) (by kernel_rfl) (by kernel_rfl) (fun _ _ _ h => h) (by rfl) hHeld ?_
      try simp only [Act.put, List.setIfInBounds_toArray, List.set_cons_zero, List.set_cons_succ]
      refine pass_op (i := 13) (d := 207) rfl rfl (by kernel_rfl) (by kernel_rfl) (by kernel_rfl) (fun _ _ _ h => h) (by rfl) hHeld ?_
      try simp only [Act.put, List.setIfInBounds_toArray, List.set_cons_zero, List.set_cons_succ]
      refine pass_op (i := 14) (d := 208) rfl rfl (by kernel_rfl) (by kernel_rfl) (by kernel_rfl) (fun _ _ _ h => h) (by rfl) hHeld ?_
      try simp only [Act.put, List.setIfInBounds_toArray, List.set_cons_zero, List.set_cons_succ]
      refine pass_op (i := 15) (d := 209) rfl rfl (by kernel_rfl) (by kernel_rfl) (by kernel_rfl) (fun _ _ _ h => h) (by rfl) hHeld ?_
      try simp only [Act.put, List.setIfInBounds_toArray, List.set_cons_zero, List.set_cons_succ]
      refine pass_op (i := 16) (d := 210) rfl rfl (by kernel_rfl) (by kernel_rfl) (by kernel_rfl) (fun _ _ _ h => h) (by rfl) hHeld ?_
      try simp only [Act.put, List.setIfInBounds_toArray, List.set_cons_zero, List.set_cons_succ]
      refine pass_op (i := 17) (d := 211) rfl rfl (by kernel_rfl) (by kernel_rfl) (by kernel_rfl) (fun _ _ _ h => h) (by rfl) hHeld ?_
      try simp only [Act.put, List.setIfInBounds_toArray, List.set_cons_zero, List.set_cons_succ]
      refine pass_op (i := 18) (d := 212) rfl rfl (by kernel_rfl) (by kernel_rfl) (by kernel_rfl) (fun _ _ _ h => h) (by rfl) hHeld ?_
      try simp only [Act.put, List.setIfInBounds_toArray, List.set_cons_zero, List.set_cons_succ]
      refine take_op (i := 19) (d := 213) (OP := Op.pick (Operand.tmp 204) (Operand.const (Value.bool true)) (Operand.tmp 212)) (T := 4) (v := ?vy189x) rfl rfl rfl rfl (by kernel_rfl) (by kernel_rfl) (by kernel_rfl) (fun _ _ _ h => h) (by rfl) ?hy189x hHeld ?ry189x
      case hy189x => (intro w' hSw; (try dsimp only at hSw); go_simp <;> with_reducible rfl)
      try simp only [Act.put, List.setIfInBounds_toArray, List.set_cons_zero, List.set_cons_succ]
      refine take_op (i := 20) (d := 6) (OP := Op.assign (Operand.tmp 213)) (T := 4) (v := ?vy190x) rfl rfl rfl rfl (by kernel_rfl) (by kernel_rfl) (by kernel_rfl) (fun _ _ _ h => h) (by rfl) ?hy190x hHeld ?ry190x
      case hy190x => (intro w' hSw; (try dsimp only at hSw); go_simp <;> with_reducible rfl)
      try simp only [Act.put, List.setIfInBounds_toArray, List.set_cons_zero, List.set_cons_succ]
      refine wpAnyH_done (by kernel_rfl) ?_ _
      go_wp2
      go_ret
      exact ⟨rfl, HDD.out⟩
    · have hl2 : ¬ (Y.length : Int) < (X.length : Int) := by omega
      obtain ⟨hc1, hc2⟩ := HYc.out
      have hl3 : (X.length : Int) ≤ (c13 : Int) := by omega
      have hl4 : X.length ≤ c13 := by omega
      refine wp_region_held_drew (S := (fun w' => w'.heap[w.heap.size]? = some (.cells #[.int .i64 g, .int .i64 r, .string l, .int .i64 n, .int .i64 x] 27) ∧ w'.heap[w.heap.size + 1]? = some (.cells #[.int .i64 g', .int .i64 r', .string l', .int .i64 n', .int .i64 x'] 27) ∧ Rd w' a11 X ∧ Rd w' a13 Y)) (by kernel_rfl) (by exact hS) (fun hHeld => ?_)
      try dsimp only at hHeld
      refine take_op (i := 0) (d := 194) (OP := Op.load 27 (Operand.tmp 3)) (T := 27) (v := sv g r l n x) rfl rfl rfl rfl (by kernel_rfl) (by kernel_rfl) (by kernel_rfl) (fun _ _ _ h => h) (by rfl) (fun w' hSw => exec_load27 rfl hSw.1) hHeld ?_
      try simp only [Act.put, List.setIfInBounds_toArray, List.set_cons_zero, List.set_cons_succ]
      refine take_op (i := 1) (d := 195) (OP := Op.load 27 (Operand.tmp 4)) (T := 27) (v := sv g' r' l' n' x') rfl rfl rfl rfl (by kernel_rfl) (by kernel_rfl) (by kernel_rfl) (fun _ _ _ h => h) (by rfl) (fun w' hSw => exec_load27 rfl hSw.2.1) hHeld ?_
      try simp only [Act.put, List.setIfInBounds_toArray, List.set_cons_zero, List.set_cons_succ]
      refine take_op (i := 2) (d := 196) (OP := Op.binOp BinOp.eql 27 (Operand.tmp 194) (Operand.tmp 195) 27) (T := 4) (v := .bool false) rfl rfl rfl rfl (by kernel_rfl) (by kernel_rfl) (by kernel_rfl) (fun _ _ _ h => h) (by rfl) (fun w' _ => exec_eqv rfl rfl e27) hHeld ?_
      try simp only [Act.put, List.setIfInBounds_toArray, List.set_cons_zero, List.set_cons_succ]
      refine take_op (i := 3) (d := 197) (OP := Op.move (Operand.tmp 196)) (T := 4) (v := ?vy191x) rfl rfl rfl rfl (by kernel_rfl) (by kernel_rfl) (by kernel_rfl) (fun _ _ _ h => h) (by rfl) ?hy191x hHeld ?ry191x
      case hy191x => (intro w' hSw; (try dsimp only at hSw); go_simp <;> with_reducible rfl)
      try simp only [Act.put, List.setIfInBounds_toArray, List.set_cons_zero, List.set_cons_succ]
      refine take_op (i := 4) (d := 198) (OP := Op.move (Operand.tmp 11)) (T := 29) (v := ?vy192x) rfl rfl rfl rfl (by kernel_rfl) (by kernel_rfl) (by kernel_rfl) (fun _ _ _ h => h) (by rfl) ?hy192x hHeld ?ry192x
      case hy192x => (intro w' hSw; (try dsimp only at hSw); go_simp <;> with_reducible rfl)
      try simp only [Act.put, List.setIfInBounds_toArray, List.set_cons_zero, List.set_cons_succ]
      refine take_op (i := 5) (d := 199) (OP := Op.call { callee := Callee.builtin Builtin.len, args := #[Operand.tmp 198], argTypes := #[29] }) (T := 3) (v := ?vy193x) rfl rfl rfl rfl (by kernel_rfl) (by kernel_rfl) (by kernel_rfl) (fun _ _ _ h => h) (by rfl) ?hy193x hHeld ?ry193x
      case hy193x => (intro w' hSw; (try dsimp only at hSw); go_simp <;> with_reducible rfl)
      try simp only [Act.put, List.setIfInBounds_toArray, List.set_cons_zero, List.set_cons_succ]
      refine take_op (i := 6) (d := 200) (OP := Op.move (Operand.tmp 13)) (T := 29) (v := ?vy194x) rfl rfl rfl rfl (by kernel_rfl) (by kernel_rfl) (by kernel_rfl) (fun _ _ _ h => h) (by rfl) ?hy194x hHeld ?ry194x
      case hy194x => (intro w' hSw; (try dsimp only at hSw); go_simp <;> with_reducible rfl)
      try simp only [Act.put, List.setIfInBounds_toArray, List.set_cons_zero, List.set_cons_succ]
      refine take_op (i := 7) (d := 201) (OP := Op.call { callee := Callee.builtin Builtin.len, args := #[Operand.tmp 200], argTypes := #[29] }) (T := 3) (v := ?vy195x) rfl rfl rfl rfl (by kernel_rfl) (by kernel_rfl) (by kernel_rfl) (fun _ _ _ h => h) (by rfl) ?hy195x hHeld ?ry195x
      case hy195x => (intro w' hSw; (try dsimp only at hSw); go_simp <;> with_reducible rfl)
      try simp only [Act.put, List.setIfInBounds_toArray, List.set_cons_zero, List.set_cons_succ]
      refine take_op (i := 8) (d := 202) (OP := Op.binOp BinOp.gtr 3 (Operand.tmp 199) (Operand.tmp 201) 3) (T := 4) (v := ?vy196x) rfl rfl rfl rfl (by kernel_rfl) (by kernel_rfl) (by kernel_rfl) (fun _ _ _ h => h) (by rfl) ?hy196x hHeld ?ry196x
      case hy196x => (intro w' hSw; (try dsimp only at hSw); go_simp <;> with_reducible rfl)
      try simp only [Act.put, List.setIfInBounds_toArray, List.set_cons_zero, List.set_cons_succ]
      refine take_op (i := 9) (d := 203) (OP := Op.pick (Operand.tmp 197) (Operand.const (Value.bool true)) (Operand.tmp 202)) (T := 4) (v := ?vy197x) rfl rfl rfl rfl (by kernel_rfl) (by kernel_rfl) (by kernel_rfl) (fun _ _ _ h => h) (by rfl) ?hy197x hHeld ?ry197x
      case hy197x => (intro w' hSw; (try dsimp only at hSw); go_simp <;> with_reducible rfl)
      try simp only [Act.put, List.setIfInBounds_toArray, List.set_cons_zero, List.set_cons_succ]
      refine take_op (i := 10) (d := 204) (OP := Op.move (Operand.tmp 203)) (T := 4) (v := ?vy198x) rfl rfl rfl rfl (by kernel_rfl) (by kernel_rfl) (by kernel_rfl) (fun _ _ _ h => h) (by rfl) ?hy198x hHeld ?ry198x
      case hy198x => (intro w' hSw; (try dsimp only at hSw); go_simp <;> with_reducible rfl)
      try simp only [Act.put, List.setIfInBounds_toArray, List.set_cons_zero, List.set_cons_succ]
      refine take_op (i := 11) (d := 205) (OP := Op.move (Operand.tmp 13)) (T := 29) (v := ?vy199x) rfl rfl rfl rfl (by kernel_rfl) (by kernel_rfl) (by kernel_rfl) (fun _ _ _ h => h) (by rfl) ?hy199x hHeld ?ry199x
      case hy199x => (intro w' hSw; (try dsimp only at hSw); go_simp <;> with_reducible rfl)
      try simp only [Act.put, List.setIfInBounds_toArray, List.set_cons_zero, List.set_cons_succ]
      refine take_op (i := 12) (d := 206) (OP := Op.move (Operand.tmp 11)) (T := 29) (v := ?vy200x) rfl rfl rfl rfl (by kernel_rfl) (by kernel_rfl) (by kernel_rfl) (fun _ _ _ h => h) (by rfl) ?hy200x hHeld ?ry200x
      case hy200x => (intro w' hSw; (try dsimp only at hSw); go_simp <;> with_reducible rfl)
      try simp only [Act.put, List.setIfInBounds_toArray, List.set_cons_zero, List.set_cons_succ]
      refine take_op (i := 13) (d := 207) (OP := Op.call { callee := Callee.builtin Builtin.len, args := #[Operand.tmp 206], argTypes := #[29] }) (T := 3) (v := ?vy201x) rfl rfl rfl rfl (by kernel_rfl) (by kernel_rfl) (by kernel_rfl) (fun _ _ _ h => h) (by rfl) ?hy201x hHeld ?ry201x
      case hy201x => (intro w' hSw; (try dsimp only at hSw); go_simp <;> with_reducible rfl)
      try simp only [Act.put, List.setIfInBounds_toArray, List.set_cons_zero, List.set_cons_succ]
      refine take_op (i := 14) (d := 208) (OP := Op.slice 29 (Operand.tmp 205) none (some (Operand.tmp 207)) none) (T := 29) (v := ?vy202x) rfl rfl rfl rfl (by kernel_rfl) (by kernel_rfl) (by kernel_rfl) (fun _ _ _ h => h) (by rfl) ?hy202x hHeld ?ry202x
      case hy202x => (intro w' hSw; (try dsimp only at hSw); go_simp <;> with_reducible rfl)
      try simp only [Act.put, List.setIfInBounds_toArray, List.set_cons_zero, List.set_cons_succ]
      refine take_op (i := 15) (d := 209) (OP := Op.convert 29 9 (Operand.tmp 208)) (T := 9) (v := .string (strOfNums (Y.take X.length))) rfl rfl rfl rfl (by kernel_rfl) (by kernel_rfl) (by kernel_rfl) (fun _ _ _ h => h) (by rfl) (fun w' hSw => exec_conv2 (v := .slice a13 X.length c13) rfl (conv_rd (n := X.length) (cap := c13) (hSw.2.2.2.take X.length) (by rw [List.length_take]; omega))) hHeld ?_
      try simp only [Act.put, List.setIfInBounds_toArray, List.set_cons_zero, List.set_cons_succ]
      refine take_op (i := 16) (d := 210) (OP := Op.move (Operand.tmp 11)) (T := 29) (v := ?vy203x) rfl rfl rfl rfl (by kernel_rfl) (by kernel_rfl) (by kernel_rfl) (fun _ _ _ h => h) (by rfl) ?hy203x hHeld ?ry203x
      case hy203x => (intro w' hSw; (try dsimp only at hSw); go_simp <;> with_reducible rfl)
      try simp only [Act.put, List.setIfInBounds_toArray, List.set_cons_zero, List.set_cons_succ]
      refine take_op (i := 17) (d := 211) (OP := Op.convert 29 9 (Operand.tmp 210)) (T := 9) (v := .string (strOfNums X)) rfl rfl rfl rfl (by kernel_rfl) (by kernel_rfl) (by kernel_rfl) (fun _ _ _ h => h) (by rfl) (fun w' hSw => exec_conv2 (v := .slice a11 X.length c11) rfl (conv_rd (n := X.length) (cap := c11) hSw.2.2.1 rfl)) hHeld ?_
      try simp only [Act.put, List.setIfInBounds_toArray, List.set_cons_zero, List.set_cons_succ]
      refine take_op (i := 18) (d := 212) (OP := Op.binOp BinOp.neq 9 (Operand.tmp 209) (Operand.tmp 211) 9) (T := 4) (v := ?vy204x) rfl rfl rfl rfl (by kernel_rfl) (by kernel_rfl) (by kernel_rfl) (fun _ _ _ h => h) (by rfl) ?hy204x hHeld ?ry204x
      case hy204x => (intro w' hSw; (try dsimp only at hSw); go_simp <;> with_reducible rfl)
      try simp only [Act.put, List.setIfInBounds_toArray, List.set_cons_zero, List.set_cons_succ]
      refine take_op (i := 19) (d := 213) (OP := Op.pick (Operand.tmp 204) (Operand.const (Value.bool true)) (Operand.tmp 212)) (T := 4) (v := ?vy205x) rfl rfl rfl rfl (by kernel_rfl) (by kernel_rfl) (by kernel_rfl) (fun _ _ _ h => h) (by rfl) ?hy205x hHeld ?ry205x
      case hy205x => (intro w' hSw; (try dsimp only at hSw); go_simp <;> with_reducible rfl)
      try simp only [Act.put, List.setIfInBounds_toArray, List.set_cons_zero, List.set_cons_succ]
      refine take_op (i := 20) (d := 6) (OP := Op.assign (Operand.tmp 213)) (T := 4) (v := ?vy206x) rfl rfl rfl rfl (by kernel_rfl) (by kernel_rfl) (by kernel_rfl) (fun _ _ _ h => h) (by rfl) ?hy206x hHeld ?ry206x
      case hy206x => (intro w' hSw; (try dsimp only at hSw); go_simp <;> with_reducible rfl)
      try simp only [Act.put, List.setIfInBounds_toArray, List.set_cons_zero, List.set_cons_succ]
      refine wpAnyH_done (by kernel_rfl) ?_ _
      go_wp2
      go_ret
      exact ⟨rfl, HDD.out⟩
end Go.Proofs.YtkjabnpniingnaaGreatDoor
