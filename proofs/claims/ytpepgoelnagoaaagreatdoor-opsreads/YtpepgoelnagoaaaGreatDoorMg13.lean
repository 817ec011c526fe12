/-
  OPS: field 111 to 114: what a source's method tells, unless something was wrong ahead of it.
  OPS: sources of fields (Src), and what field 111 to 114 tells of any of them.
-/
import Derived.Test.YtpepgoelnagoaaaGreatDoorMg12
namespace Go.Proofs.YtpepgoelnagoaaaGreatDoor
open Go.RowKit Go.Shelf
set_option linter.unusedSimpArgs false
set_option linter.unusedVariables false
attribute [local go_sem] Oper.semAt_some

/-- The cell in which an error stands. -/
def ErrC (w : World) (E : Nat) (er : Int) : Prop := w.heap[E]? = some (.cells #[.int .i64 er] 27 (0, 0))
theorem ErrC.cell {w : World} {E : Nat} {er : Int} (h : ErrC w E er) : w.cell? ⟨E, 0, none⟩ = some (.int .i64 er) ∧ w.frozen? ⟨E, 0, none⟩ = false :=
  ⟨(cell_of_row _ _ 0 _ 27 (0, 0) h).trans rfl, frozen_of_row _ _ 0 _ 27 h⟩

set_option maxHeartbeats 2000000 in
set_option maxRecDepth 100000 in
theorem field111_no {fv : Value} {E : Nat} {er : Int} {w : World} (hE : ErrC w E er) (her : er ≠ 0) : Calls Tryz.prog 111 #[.pointer (some ⟨E, 0, none⟩), fv] w fun e w' => e = .returned (.int .i64 0) ∧ w' = w := by
  obtain ⟨c0, f0⟩ := hE.cell
  have e0 : (er == 0) = false := by simpa using her
  go_enter Tryz.func111, Tryz.ntmps111
  go_wp2
  go_ret
  exact ⟨rfl, rfl⟩
set_option maxHeartbeats 2000000 in
set_option maxRecDepth 100000 in
theorem field111_yes {T : TypeId} {v : Value} {f : FuncId} {E : Nat} {w : World} {R : Ending → World → Prop} (hE : ErrC w E 0) (eg : Enters Tryz.prog f) (hm : ∀ W, (method 385 T v "estuary/ops.do").run Tryz.prog W = .ok (f, v) W) (hc : Calls Tryz.prog f #[v] w R) (hR : ∀ e w', R e w' → ∃ x er, e = .returned (.tuple #[x, .int .i64 er]) ∧ ErrC w' E 0) :
    Calls Tryz.prog 111 #[.pointer (some ⟨E, 0, none⟩), .func (.method "estuary/ops.do") #[.iface T v] #[]] w fun e w' => ∃ x er w1, R (.returned (.tuple #[x, .int .i64 er])) w1 ∧ e = .returned x ∧ w' = w1.setCell ⟨E, 0, none⟩ (.int .i64 er) := by
  obtain ⟨c0, f0⟩ := hE.cell
  have hcf := fun (args : Array Value) (W : World) => eg args W
  go_enter Tryz.func111, Tryz.ntmps111
  go_wp2_with fail
  refine hc.mono ?_
  intro e w1 hr
  obtain ⟨x, er, rfl, h1⟩ := hR e w1 hr
  obtain ⟨c1, f1⟩ := h1.cell
  have HR := hide hr
  clear hr hR hc hm c0 f0 hE h1
  go_wp2
  go_ret
  exact ⟨x, er, w1, HR.out, rfl, rfl⟩

set_option maxHeartbeats 2000000 in
set_option maxRecDepth 100000 in
theorem field112_no {fv : Value} {E : Nat} {er : Int} {w : World} (hE : ErrC w E er) (her : er ≠ 0) : Calls Tryz.prog 112 #[.pointer (some ⟨E, 0, none⟩), fv] w fun e w' => e = .returned (.slice none 0 0) ∧ w' = w := by
  obtain ⟨c0, f0⟩ := hE.cell
  have e0 : (er == 0) = false := by simpa using her
  go_enter Tryz.func112, Tryz.ntmps112
  go_wp2
  go_ret
  exact ⟨rfl, rfl⟩
set_option maxHeartbeats 2000000 in
set_option maxRecDepth 100000 in
theorem field112_yes {T : TypeId} {v : Value} {f : FuncId} {E : Nat} {w : World} {R : Ending → World → Prop} (hE : ErrC w E 0) (eg : Enters Tryz.prog f) (hm : ∀ W, (method 385 T v "estuary/ops.path").run Tryz.prog W = .ok (f, v) W) (hc : Calls Tryz.prog f #[v] w R) (hR : ∀ e w', R e w' → ∃ x er, e = .returned (.tuple #[x, .int .i64 er]) ∧ ErrC w' E 0) :
    Calls Tryz.prog 112 #[.pointer (some ⟨E, 0, none⟩), .func (.method "estuary/ops.path") #[.iface T v] #[]] w fun e w' => ∃ x er w1, R (.returned (.tuple #[x, .int .i64 er])) w1 ∧ e = .returned x ∧ w' = w1.setCell ⟨E, 0, none⟩ (.int .i64 er) := by
  obtain ⟨c0, f0⟩ := hE.cell
  have hcf := fun (args : Array Value) (W : World) => eg args W
  go_enter Tryz.func112, Tryz.ntmps112
  go_wp2_with fail
  refine hc.mono ?_
  intro e w1 hr
  obtain ⟨x, er, rfl, h1⟩ := hR e w1 hr
  obtain ⟨c1, f1⟩ := h1.cell
  have HR := hide hr
  clear hr hR hc hm c0 f0 hE h1
  go_wp2
  go_ret
  exact ⟨x, er, w1, HR.out, rfl, rfl⟩

set_option maxHeartbeats 2000000 in
set_option maxRecDepth 100000 in
theorem field113_no {fv : Value} {E : Nat} {er : Int} {w : World} (hE : ErrC w E er) (her : er ≠ 0) : Calls Tryz.prog 113 #[.pointer (some ⟨E, 0, none⟩), fv] w fun e w' => e = .returned (.string ⟨#[]⟩) ∧ w' = w := by
  obtain ⟨c0, f0⟩ := hE.cell
  have e0 : (er == 0) = false := by simpa using her
  go_enter Tryz.func113, Tryz.ntmps113
  go_wp2
  go_ret
  exact ⟨rfl, rfl⟩
set_option maxHeartbeats 2000000 in
set_option maxRecDepth 100000 in
theorem field113k_yes {T : TypeId} {v : Value} {f : FuncId} {E : Nat} {w : World} {R : Ending → World → Prop} (hE : ErrC w E 0) (eg : Enters Tryz.prog f) (hm : ∀ W, (method 385 T v "estuary/ops.key").run Tryz.prog W = .ok (f, v) W) (hc : Calls Tryz.prog f #[v] w R) (hR : ∀ e w', R e w' → ∃ x er, e = .returned (.tuple #[x, .int .i64 er]) ∧ ErrC w' E 0) :
    Calls Tryz.prog 113 #[.pointer (some ⟨E, 0, none⟩), .func (.method "estuary/ops.key") #[.iface T v] #[]] w fun e w' => ∃ x er w1, R (.returned (.tuple #[x, .int .i64 er])) w1 ∧ e = .returned x ∧ w' = w1.setCell ⟨E, 0, none⟩ (.int .i64 er) := by
  obtain ⟨c0, f0⟩ := hE.cell
  have hcf := fun (args : Array Value) (W : World) => eg args W
  go_enter Tryz.func113, Tryz.ntmps113
  go_wp2_with fail
  refine hc.mono ?_
  intro e w1 hr
  obtain ⟨x, er, rfl, h1⟩ := hR e w1 hr
  obtain ⟨c1, f1⟩ := h1.cell
  have HR := hide hr
  clear hr hR hc hm c0 f0 hE h1
  go_wp2
  go_ret
  exact ⟨x, er, w1, HR.out, rfl, rfl⟩
set_option maxHeartbeats 2000000 in
set_option maxRecDepth 100000 in
theorem field113t_yes {T : TypeId} {v : Value} {f : FuncId} {E : Nat} {w : World} {R : Ending → World → Prop} (hE : ErrC w E 0) (eg : Enters Tryz.prog f) (hm : ∀ W, (method 385 T v "estuary/ops.text").run Tryz.prog W = .ok (f, v) W) (hc : Calls Tryz.prog f #[v] w R) (hR : ∀ e w', R e w' → ∃ x er, e = .returned (.tuple #[x, .int .i64 er]) ∧ ErrC w' E 0) :
    Calls Tryz.prog 113 #[.pointer (some ⟨E, 0, none⟩), .func (.method "estuary/ops.text") #[.iface T v] #[]] w fun e w' => ∃ x er w1, R (.returned (.tuple #[x, .int .i64 er])) w1 ∧ e = .returned x ∧ w' = w1.setCell ⟨E, 0, none⟩ (.int .i64 er) := by
  obtain ⟨c0, f0⟩ := hE.cell
  have hcf := fun (args : Array Value) (W : World) => eg args W
  go_enter Tryz.func113, Tryz.ntmps113
  go_wp2_with fail
  refine hc.mono ?_
  intro e w1 hr
  obtain ⟨x, er, rfl, h1⟩ := hR e w1 hr
  obtain ⟨c1, f1⟩ := h1.cell
  have HR := hide hr
  clear hr hR hc hm c0 f0 hE h1
  go_wp2
  go_ret
  exact ⟨x, er, w1, HR.out, rfl, rfl⟩

set_option maxHeartbeats 2000000 in
set_option maxRecDepth 100000 in
theorem field114_no {fv : Value} {E : Nat} {er : Int} {w : World} (hE : ErrC w E er) (her : er ≠ 0) : Calls Tryz.prog 114 #[.pointer (some ⟨E, 0, none⟩), fv] w fun e w' => e = .returned (.int .i64 0) ∧ w' = w := by
  obtain ⟨c0, f0⟩ := hE.cell
  have e0 : (er == 0) = false := by simpa using her
  go_enter Tryz.func114, Tryz.ntmps114
  go_wp2
  go_ret
  exact ⟨rfl, rfl⟩
set_option maxHeartbeats 2000000 in
set_option maxRecDepth 100000 in
theorem field114_yes {T : TypeId} {v : Value} {f : FuncId} {E : Nat} {w : World} {R : Ending → World → Prop} (hE : ErrC w E 0) (eg : Enters Tryz.prog f) (hm : ∀ W, (method 385 T v "estuary/ops.number").run Tryz.prog W = .ok (f, v) W) (hc : Calls Tryz.prog f #[v] w R) (hR : ∀ e w', R e w' → ∃ x er, e = .returned (.tuple #[x, .int .i64 er]) ∧ ErrC w' E 0) :
    Calls Tryz.prog 114 #[.pointer (some ⟨E, 0, none⟩), .func (.method "estuary/ops.number") #[.iface T v] #[]] w fun e w' => ∃ x er w1, R (.returned (.tuple #[x, .int .i64 er])) w1 ∧ e = .returned x ∧ w' = w1.setCell ⟨E, 0, none⟩ (.int .i64 er) := by
  obtain ⟨c0, f0⟩ := hE.cell
  have hcf := fun (args : Array Value) (W : World) => eg args W
  go_enter Tryz.func114, Tryz.ntmps114
  go_wp2_with fail
  refine hc.mono ?_
  intro e w1 hr
  obtain ⟨x, er, rfl, h1⟩ := hR e w1 hr
  obtain ⟨c1, f1⟩ := h1.cell
  have HR := hide hr
  clear hr hR hc hm c0 f0 hE h1
  go_wp2
  go_ret
  exact ⟨x, er, w1, HR.out, rfl, rfl⟩
end Go.Proofs.YtpepgoelnagoaaaGreatDoor
namespace Go.Proofs.YtpepgoelnagoaaaGreatDoor
open Go.RowKit Go.Shelf
set_option linter.unusedSimpArgs false
set_option linter.unusedVariables false

/-- A source of fields: its value and methods, what it writes (D, below B), what it stands at (St), and what each method tells of that. -/
structure Src (σ : Type) where
  T : TypeId
  v : Value
  fd : FuncId
  fp : FuncId
  fk : FuncId
  fn : FuncId
  ft : FuncId
  D : Nat → Prop
  B : Nat
  St : σ → World → Prop
  pd : σ → Int × Int × σ
  pp : σ → List ByteArray × Int × σ
  pk : σ → ByteArray × Int × σ
  pn : σ → Int × Int × σ
  pt : σ → ByteArray × Int × σ
  okn : σ → Prop
/-- A field, unless something was wrong ahead of it. -/
def fld {α σ : Type} (f : σ → α × Int × σ) (z : α) (er : Int) (q : σ) : α × Int × σ := if er = 0 then f q else (z, er, q)
structure SrcOk {σ : Type} (s : Src σ) : Prop where
  lt : ∀ j, s.D j → j < s.B
  le : ∀ q W, s.St q W → s.B ≤ W.heap.size
  stable : ∀ q W W', s.St q W → Below s.B W W' → s.St q W'
  env : ∀ q W, s.St q W → EnvO W
  qd : ∀ W, (method 385 s.T s.v "estuary/ops.do").run Tryz.prog W = .ok (s.fd, s.v) W
  qp : ∀ W, (method 385 s.T s.v "estuary/ops.path").run Tryz.prog W = .ok (s.fp, s.v) W
  qk : ∀ W, (method 385 s.T s.v "estuary/ops.key").run Tryz.prog W = .ok (s.fk, s.v) W
  qn : ∀ W, (method 385 s.T s.v "estuary/ops.number").run Tryz.prog W = .ok (s.fn, s.v) W
  qt : ∀ W, (method 385 s.T s.v "estuary/ops.text").run Tryz.prog W = .ok (s.ft, s.v) W
  ed : Enters Tryz.prog s.fd
  ep : Enters Tryz.prog s.fp
  ek : Enters Tryz.prog s.fk
  en : Enters Tryz.prog s.fn
  et : Enters Tryz.prog s.ft
  cd : ∀ q W, s.St q W → Calls Tryz.prog s.fd #[s.v] W fun e w' => e = .returned (.tuple #[.int .i64 (s.pd q).1, .int .i64 (s.pd q).2.1]) ∧ s.St (s.pd q).2.2 w' ∧ Only s.D W w'
  cp : ∀ q W, s.St q W → Calls Tryz.prog s.fp #[s.v] W fun e w' => ∃ x, e = .returned (.tuple #[x, .int .i64 (s.pp q).2.1]) ∧ Os w' W.heap.size x (s.pp q).1 ∧ s.St (s.pp q).2.2 w' ∧ Only s.D W w'
  ck : ∀ q W, s.St q W → Calls Tryz.prog s.fk #[s.v] W fun e w' => e = .returned (.tuple #[.string (s.pk q).1, .int .i64 (s.pk q).2.1]) ∧ s.St (s.pk q).2.2 w' ∧ Only s.D W w'
  cn : ∀ q W, s.St q W → s.okn q → Calls Tryz.prog s.fn #[s.v] W fun e w' => e = .returned (.tuple #[.int .i64 (s.pn q).1, .int .i64 (s.pn q).2.1]) ∧ s.St (s.pn q).2.2 w' ∧ Only s.D W w'
  ct : ∀ q W, s.St q W → Calls Tryz.prog s.ft #[s.v] W fun e w' => e = .returned (.tuple #[.string (s.pt q).1, .int .i64 (s.pt q).2.1]) ∧ s.St (s.pt q).2.2 w' ∧ Only s.D W w'
  num : ∀ q, I64 (s.pn q).1
  plen : ∀ q, (s.pp q).1.length ≤ 1000000
theorem only_setE {D : Nat → Prop} {W w1 : World} {E : Nat} {x : Value} (h : Only D W w1) : Only (fun j => D j ∨ j = E) W (w1.setCell ⟨E, 0, none⟩ x) :=
  (h.mono (fun _ _ hd => .inl hd)).setCell ⟨E, 0, none⟩ x (fun _ => .inr rfl)
theorem errC_set {w : World} {E : Nat} {er : Int} (h : ErrC w E 0) : ErrC (w.setCell ⟨E, 0, none⟩ (.int .i64 er)) E er := by
  unfold ErrC at h ⊢
  rw [heap_setCell_same _ _ _ _ 27 _ h]
  rfl
theorem below_setE {B : Nat} {w : World} {E : Nat} {x : Value} (h : B ≤ E) : Below B w (w.setCell ⟨E, 0, none⟩ x) := (Below.refl B w).setCell (p := ⟨E, 0, none⟩) h x

set_option maxHeartbeats 1000000 in
theorem fdd_any {σ : Type} {s : Src σ} (hs : SrcOk s) {q : σ} {W : World} {E : Nat} {er : Int} (hq : s.St q W) (hE : ErrC W E er) (hB : s.B ≤ E) :
    Calls Tryz.prog 111 #[.pointer (some ⟨E, 0, none⟩), .func (.method "estuary/ops.do") #[.iface s.T s.v] #[]] W fun e w' => e = .returned (.int .i64 (fld s.pd 0 er q).1) ∧ ErrC w' E (fld s.pd 0 er q).2.1 ∧ s.St (fld s.pd 0 er q).2.2 w' ∧ Only (fun j => s.D j ∨ j = E) W w' := by
  by_cases her : er = 0
  · subst her
    have hf : fld s.pd 0 0 q = s.pd q := if_pos rfl
    rw [hf]
    have hlt : E < W.heap.size := (Array.getElem?_eq_some_iff.1 hE).1
    refine (field111_yes hE hs.ed hs.qd (hs.cd q W hq) ?_).mono ?_
    · rintro e w' ⟨rfl, hst, ho⟩
      exact ⟨_, _, rfl, (ho.block E hlt (fun hd => absurd (hs.lt E hd) (by omega))).trans hE⟩
    · rintro e w' ⟨x, er', w1, ⟨h1, hst, ho⟩, rfl, rfl⟩
      simp only [Ending.returned.injEq, Value.tuple.injEq, Array.mk.injEq, List.cons.injEq, Value.int.injEq, true_and, and_true] at h1
      obtain ⟨rfl, rfl⟩ := h1
      have hE1 : ErrC w1 E 0 := (ho.block E hlt (fun hd => absurd (hs.lt E hd) (by omega))).trans hE
      refine ⟨rfl, errC_set hE1, hs.stable _ _ _ hst (below_setE hB), only_setE ho⟩
  · have hf : fld s.pd 0 er q = (0, er, q) := if_neg her
    rw [hf]
    refine (field111_no hE her).mono ?_
    rintro e w' ⟨rfl, h2⟩
    have h2 := h2.symm
    subst h2
    exact ⟨rfl, hE, hq, Only.refl _ _⟩

set_option maxHeartbeats 1000000 in
theorem fdp_any {σ : Type} {s : Src σ} (hs : SrcOk s) {q : σ} {W : World} {E : Nat} {er : Int} (hq : s.St q W) (hE : ErrC W E er) (hB : s.B ≤ E) :
    Calls Tryz.prog 112 #[.pointer (some ⟨E, 0, none⟩), .func (.method "estuary/ops.path") #[.iface s.T s.v] #[]] W fun e w' => ∃ x, e = .returned (x) ∧ Os w' W.heap.size x (fld s.pp [] er q).1 ∧ ErrC w' E (fld s.pp [] er q).2.1 ∧ s.St (fld s.pp [] er q).2.2 w' ∧ Only (fun j => s.D j ∨ j = E) W w' := by
  by_cases her : er = 0
  · subst her
    have hf : fld s.pp [] 0 q = s.pp q := if_pos rfl
    rw [hf]
    have hlt : E < W.heap.size := (Array.getElem?_eq_some_iff.1 hE).1
    refine (field112_yes hE hs.ep hs.qp (hs.cp q W hq) ?_).mono ?_
    · rintro e w' ⟨x, rfl, hos, hst, ho⟩
      exact ⟨_, _, rfl, (ho.block E hlt (fun hd => absurd (hs.lt E hd) (by omega))).trans hE⟩
    · rintro e w' ⟨x, er', w1, ⟨x2, h1, hos, hst, ho⟩, rfl, rfl⟩
      simp only [Ending.returned.injEq, Value.tuple.injEq, Array.mk.injEq, List.cons.injEq, Value.int.injEq, true_and, and_true] at h1
      obtain ⟨rfl, rfl⟩ := h1
      have hE1 : ErrC w1 E 0 := (ho.block E hlt (fun hd => absurd (hs.lt E hd) (by omega))).trans hE
      refine ⟨_, rfl, ?_, errC_set hE1, hs.stable _ _ _ hst (below_setE hB), only_setE ho⟩
      exact hos.only (Only.ofGrown (grown_setCell w1 ⟨E, 0, none⟩ _)) (fun k hk e => by have := (World.ownsRow.lt hos k hk).1; simp only [Option.some.injEq] at e; omega)
  · have hf : fld s.pp [] er q = ([], er, q) := if_neg her
    rw [hf]
    refine (field112_no hE her).mono ?_
    rintro e w' ⟨rfl, h2⟩
    have h2 := h2.symm
    subst h2
    exact ⟨_, rfl, Os.nil _ _, hE, hq, Only.refl _ _⟩

set_option maxHeartbeats 1000000 in
theorem fdk_any {σ : Type} {s : Src σ} (hs : SrcOk s) {q : σ} {W : World} {E : Nat} {er : Int} (hq : s.St q W) (hE : ErrC W E er) (hB : s.B ≤ E) :
    Calls Tryz.prog 113 #[.pointer (some ⟨E, 0, none⟩), .func (.method "estuary/ops.key") #[.iface s.T s.v] #[]] W fun e w' => e = .returned (.string (fld s.pk ⟨#[]⟩ er q).1) ∧ ErrC w' E (fld s.pk ⟨#[]⟩ er q).2.1 ∧ s.St (fld s.pk ⟨#[]⟩ er q).2.2 w' ∧ Only (fun j => s.D j ∨ j = E) W w' := by
  by_cases her : er = 0
  · subst her
    have hf : fld s.pk ⟨#[]⟩ 0 q = s.pk q := if_pos rfl
    rw [hf]
    have hlt : E < W.heap.size := (Array.getElem?_eq_some_iff.1 hE).1
    refine (field113k_yes hE hs.ek hs.qk (hs.ck q W hq) ?_).mono ?_
    · rintro e w' ⟨rfl, hst, ho⟩
      exact ⟨_, _, rfl, (ho.block E hlt (fun hd => absurd (hs.lt E hd) (by omega))).trans hE⟩
    · rintro e w' ⟨x, er', w1, ⟨h1, hst, ho⟩, rfl, rfl⟩
      simp only [Ending.returned.injEq, Value.tuple.injEq, Array.mk.injEq, List.cons.injEq, Value.int.injEq, true_and, and_true] at h1
      obtain ⟨rfl, rfl⟩ := h1
      have hE1 : ErrC w1 E 0 := (ho.block E hlt (fun hd => absurd (hs.lt E hd) (by omega))).trans hE
      refine ⟨rfl, errC_set hE1, hs.stable _ _ _ hst (below_setE hB), only_setE ho⟩
  · have hf : fld s.pk ⟨#[]⟩ er q = (⟨#[]⟩, er, q) := if_neg her
    rw [hf]
    refine (field113_no hE her).mono ?_
    rintro e w' ⟨rfl, h2⟩
    have h2 := h2.symm
    subst h2
    exact ⟨rfl, hE, hq, Only.refl _ _⟩

set_option maxHeartbeats 1000000 in
theorem fdn_any {σ : Type} {s : Src σ} (hs : SrcOk s) {q : σ} {W : World} {E : Nat} {er : Int} (hq : s.St q W) (hE : ErrC W E er) (hB : s.B ≤ E) (hk : er = 0 → s.okn q) :
    Calls Tryz.prog 114 #[.pointer (some ⟨E, 0, none⟩), .func (.method "estuary/ops.number") #[.iface s.T s.v] #[]] W fun e w' => e = .returned (.int .i64 (fld s.pn 0 er q).1) ∧ ErrC w' E (fld s.pn 0 er q).2.1 ∧ s.St (fld s.pn 0 er q).2.2 w' ∧ Only (fun j => s.D j ∨ j = E) W w' := by
  by_cases her : er = 0
  · subst her
    have hf : fld s.pn 0 0 q = s.pn q := if_pos rfl
    rw [hf]
    have hlt : E < W.heap.size := (Array.getElem?_eq_some_iff.1 hE).1
    refine (field114_yes hE hs.en hs.qn (hs.cn q W hq (hk rfl)) ?_).mono ?_
    · rintro e w' ⟨rfl, hst, ho⟩
      exact ⟨_, _, rfl, (ho.block E hlt (fun hd => absurd (hs.lt E hd) (by omega))).trans hE⟩
    · rintro e w' ⟨x, er', w1, ⟨h1, hst, ho⟩, rfl, rfl⟩
      simp only [Ending.returned.injEq, Value.tuple.injEq, Array.mk.injEq, List.cons.injEq, Value.int.injEq, true_and, and_true] at h1
      obtain ⟨rfl, rfl⟩ := h1
      have hE1 : ErrC w1 E 0 := (ho.block E hlt (fun hd => absurd (hs.lt E hd) (by omega))).trans hE
      refine ⟨rfl, errC_set hE1, hs.stable _ _ _ hst (below_setE hB), only_setE ho⟩
  · have hf : fld s.pn 0 er q = (0, er, q) := if_neg her
    rw [hf]
    refine (field114_no hE her).mono ?_
    rintro e w' ⟨rfl, h2⟩
    have h2 := h2.symm
    subst h2
    exact ⟨rfl, hE, hq, Only.refl _ _⟩

set_option maxHeartbeats 1000000 in
theorem fdt_any {σ : Type} {s : Src σ} (hs : SrcOk s) {q : σ} {W : World} {E : Nat} {er : Int} (hq : s.St q W) (hE : ErrC W E er) (hB : s.B ≤ E) :
    Calls Tryz.prog 113 #[.pointer (some ⟨E, 0, none⟩), .func (.method "estuary/ops.text") #[.iface s.T s.v] #[]] W fun e w' => e = .returned (.string (fld s.pt ⟨#[]⟩ er q).1) ∧ ErrC w' E (fld s.pt ⟨#[]⟩ er q).2.1 ∧ s.St (fld s.pt ⟨#[]⟩ er q).2.2 w' ∧ Only (fun j => s.D j ∨ j = E) W w' := by
  by_cases her : er = 0
  · subst her
    have hf : fld s.pt ⟨#[]⟩ 0 q = s.pt q := if_pos rfl
    rw [hf]
    have hlt : E < W.heap.size := (Array.getElem?_eq_some_iff.1 hE).1
    refine (field113t_yes hE hs.et hs.qt (hs.ct q W hq) ?_).mono ?_
    · rintro e w' ⟨rfl, hst, ho⟩
      exact ⟨_, _, rfl, (ho.block E hlt (fun hd => absurd (hs.lt E hd) (by omega))).trans hE⟩
    · rintro e w' ⟨x, er', w1, ⟨h1, hst, ho⟩, rfl, rfl⟩
      simp only [Ending.returned.injEq, Value.tuple.injEq, Array.mk.injEq, List.cons.injEq, Value.int.injEq, true_and, and_true] at h1
      obtain ⟨rfl, rfl⟩ := h1
      have hE1 : ErrC w1 E 0 := (ho.block E hlt (fun hd => absurd (hs.lt E hd) (by omega))).trans hE
      refine ⟨rfl, errC_set hE1, hs.stable _ _ _ hst (below_setE hB), only_setE ho⟩
  · have hf : fld s.pt ⟨#[]⟩ er q = (⟨#[]⟩, er, q) := if_neg her
    rw [hf]
    refine (field113_no hE her).mono ?_
    rintro e w' ⟨rfl, h2⟩
    have h2 := h2.symm
    subst h2
    exact ⟨rfl, hE, hq, Only.refl _ _⟩
end Go.Proofs.YtpepgoelnagoaaaGreatDoor
