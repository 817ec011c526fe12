/-
  Picked.
-/
import Derived.Test.YtpepgoelnagoaaaGreatDoorMg3
import Derived.Test.YtpepgoelnagoaaaGreatDoorMg4
import Derived.Test.YtpepgoelnagoaaaGreatDoorMg6
import Derived.Laws.StructEq
import Derived.RangeFuncBound
import Derived.RangeFuncCalls
import Derived.RangeFuncLeaves
import Derived.RangeFuncNested
import Derived.WalkKit
import Derived.WalkLawsBesides
import Derived.WalkSpells
namespace Go.Proofs.YtpepgoelnagoaaaGreatDoor
theorem Only.next {D : Nat → Prop} {a b c : World} (h : Only D a b) (k : Only D b c) : Only D a c := h.trans k (fun _ _ d => d)
end Go.Proofs.YtpepgoelnagoaaaGreatDoor
namespace Go.Proofs.YtpepgoelnagoaaaGreatDoor.Ki
open Go.RowKit Go.Shelf
set_option linter.unusedSimpArgs false
attribute [local go_sem] Oper.semAt_some
theorem ba_eq {a b : ByteArray} (h : a.data.toList = b.data.toList) : a = b := ByteArray.ext (Array.toList_inj.1 h)

abbrev bv (r : Int) (l : ByteArray) : Value := .agg #[.int .i64 r, .string l]
theorem cell_stays {w w' : World} {a : Addr} {x : Value} (h : w.cell? a = some x) (hb : Below w.heap.size w w') : w'.cell? a = some x := by
  rw [hb.cell (World.block_lt_of_cell? w a h)]; exact h
theorem below_drw {B : Nat} {w w' : World} (h : Below B w w') (n : Nat) : Below B w (w'.drewN n) := ⟨h.os, h.tape, h.output, h.size, h.block⟩
theorem set_one {w : World} {B i : Nat} {cs : Array Value} {ty : TypeId} (v : Value) (h : w.heap[B]? = some (.cells cs ty (0, 0))) : (w.setCell ⟨B, i, none⟩ v).heap[B]? = some (.cells (cs.setIfInBounds i v) ty (0, 0)) ∧ Only (fun j => j = B) w (w.setCell ⟨B, i, none⟩ v) := by
  refine ⟨?_, (Only.ofGrown (grown_setCell w ⟨B, i, none⟩ _)).mono (fun j _ e => by simpa using e.symm)⟩
  rw [heap_setCell_same _ _ _ _ ty _ h]
theorem below_only {D : Nat → Prop} {W W' : World} (h : Below W.heap.size W W') : Only D W W' := (Only.ofBelow h).mono (fun _ _ d => d.elim)
theorem keepC6 {w w' : World} {a0 a1 a2 a3 a4 a5 : Addr} {v0 v1 v2 v3 v4 v5 : Value} (h : w.cell? a0 = some v0 ∧ w.cell? a1 = some v1 ∧ w.cell? a2 = some v2 ∧ w.cell? a3 = some v3 ∧ w.cell? a4 = some v4 ∧ w.cell? a5 = some v5) (hb : Below w.heap.size w w') : w'.cell? a0 = some v0 ∧ w'.cell? a1 = some v1 ∧ w'.cell? a2 = some v2 ∧ w'.cell? a3 = some v3 ∧ w'.cell? a4 = some v4 ∧ w'.cell? a5 = some v5 := ⟨cell_stays h.1 hb, cell_stays h.2.1 hb, cell_stays h.2.2.1 hb, cell_stays h.2.2.2.1 hb, cell_stays h.2.2.2.2.1 hb, cell_stays h.2.2.2.2.2 hb⟩
/-- The kind of a Do. -/
def ofD (d : Int) : Int := if d = 1 then 1 else if d = 2 then 2 else if d = 3 then 2 else if d = 4 then 3 else if d = 5 then 4 else if d = 6 then 4 else if d = 7 then 5 else 0
/-- Does a Do bring an element? -/
def bringsD (d : Int) : Bool := d == 2 || d == 4 || d == 5 || d == 7
theorem of_any (d : Int) (w : World) : Calls Tryz.prog 93 #[.int .i64 d] w fun e w' => e = .returned (.int .i64 (ofD d)) ∧ w' = w := by
  unfold ofD
  by_cases h1 : d = 1
  · subst h1; go_enter Tryz.func93, Tryz.ntmps93; go_wp2; go_ret; exact ⟨rfl, rfl⟩
  by_cases h2 : d = 2
  · subst h2; go_enter Tryz.func93, Tryz.ntmps93; go_wp2; go_ret; exact ⟨rfl, rfl⟩
  by_cases h3 : d = 3
  · subst h3; go_enter Tryz.func93, Tryz.ntmps93; go_wp2; go_ret; exact ⟨rfl, rfl⟩
  by_cases h4 : d = 4
  · subst h4; go_enter Tryz.func93, Tryz.ntmps93; go_wp2; go_ret; exact ⟨rfl, rfl⟩
  by_cases h5 : d = 5
  · subst h5; go_enter Tryz.func93, Tryz.ntmps93; go_wp2; go_ret; exact ⟨rfl, rfl⟩
  by_cases h6 : d = 6
  · subst h6; go_enter Tryz.func93, Tryz.ntmps93; go_wp2; go_ret; exact ⟨rfl, rfl⟩
  by_cases h7 : d = 7
  · subst h7; go_enter Tryz.func93, Tryz.ntmps93; go_wp2; go_ret; exact ⟨rfl, rfl⟩
  simp only [h1, h2, h3, h4, h5, h6, h7, if_false]
  have e1 : (d == 1) = false := by simpa using h1
  have e2 : (d == 2) = false := by simpa using h2
  have e3 : (d == 3) = false := by simpa using h3
  have e4 : (d == 4) = false := by simpa using h4
  have e5 : (d == 5) = false := by simpa using h5
  have e6 : (d == 6) = false := by simpa using h6
  have e7 : (d == 7) = false := by simpa using h7
  go_enter Tryz.func93, Tryz.ntmps93
  go_wp2
  go_ret
  exact ⟨rfl, rfl⟩
theorem brings_any (d : Int) (w : World) : Calls Tryz.prog 131 #[.int .i64 d] w fun e w' => e = .returned (.bool (bringsD d)) ∧ w' = w := by
  unfold bringsD
  by_cases h2 : d = 2
  · subst h2; go_enter Tryz.func131, Tryz.ntmps131; go_wp2; go_ret; exact ⟨rfl, rfl⟩
  by_cases h4 : d = 4
  · subst h4; go_enter Tryz.func131, Tryz.ntmps131; go_wp2; go_ret; exact ⟨rfl, rfl⟩
  by_cases h5 : d = 5
  · subst h5; go_enter Tryz.func131, Tryz.ntmps131; go_wp2; go_ret; exact ⟨rfl, rfl⟩
  have e2 : (d == 2) = false := by simpa using h2
  have e4 : (d == 4) = false := by simpa using h4
  have e5 : (d == 5) = false := by simpa using h5
  rw [e2, e4, e5]
  go_enter Tryz.func131, Tryz.ntmps131
  go_wp2
  go_ret
  exact ⟨by simp, rfl⟩
/-- Has a kind values? -/
def valuedK (k : Int) : Bool := decide (1 ≤ k) && decide (k ≤ 5)
theorem valued_any (k : Int) (w : World) : Calls Tryz.prog 92 #[.int .i64 k] w fun e w' => e = .returned (.bool (valuedK k)) ∧ w' = w := by
  unfold valuedK
  by_cases h1 : 1 ≤ k
  · have d1 : decide (1 ≤ k) = true := by simpa using h1
    rw [d1]
    go_enter Tryz.func92, Tryz.ntmps92
    go_wp2
    go_ret
    exact ⟨by simp, rfl⟩
  · have d1 : decide (1 ≤ k) = false := by simpa using h1
    rw [d1]
    go_enter Tryz.func92, Tryz.ntmps92
    go_wp2
    go_ret
    exact ⟨rfl, rfl⟩
/-- May it be a text? -/
def textB (s : ByteArray) : Bool := decide ((s.size : Int) ≤ 256)
theorem text_any (s : ByteArray) (w : World) : Calls Tryz.prog 95 #[.string s] w fun e w' => e = .returned (.bool (textB s)) ∧ w' = w := by
  unfold textB
  go_enter Tryz.func95, Tryz.ntmps95
  go_wp2
  go_ret
  exact ⟨by simp, rfl⟩
theorem new6 (w : World) (v0 v1 v2 v3 v4 v5 : Value) (t : TypeId) : (w.alloc (.cells #[v0, v1, v2, v3, v4, v5] t)).cell? ⟨w.heap.size, 0, none⟩ = some v0 ∧ (w.alloc (.cells #[v0, v1, v2, v3, v4, v5] t)).cell? ⟨w.heap.size, 1, none⟩ = some v1 ∧ (w.alloc (.cells #[v0, v1, v2, v3, v4, v5] t)).cell? ⟨w.heap.size, 2, none⟩ = some v2 ∧ (w.alloc (.cells #[v0, v1, v2, v3, v4, v5] t)).cell? ⟨w.heap.size, 3, none⟩ = some v3 ∧ (w.alloc (.cells #[v0, v1, v2, v3, v4, v5] t)).cell? ⟨w.heap.size, 4, none⟩ = some v4 ∧ (w.alloc (.cells #[v0, v1, v2, v3, v4, v5] t)).cell? ⟨w.heap.size, 5, none⟩ = some v5 := by
  have h := heap_alloc_new w (.cells #[v0, v1, v2, v3, v4, v5] t)
  exact ⟨(cell_of_row _ _ 0 _ t (0, 0) h).trans rfl, (cell_of_row _ _ 1 _ t (0, 0) h).trans rfl, (cell_of_row _ _ 2 _ t (0, 0) h).trans rfl, (cell_of_row _ _ 3 _ t (0, 0) h).trans rfl, (cell_of_row _ _ 4 _ t (0, 0) h).trans rfl, (cell_of_row _ _ 5 _ t (0, 0) h).trans rfl⟩
theorem equalIn93 (d : Nat) (n n' : Int) (t t' : ByteArray) (w : World) : (Op.equalIn (d + 2) 133 (bv n t) (bv n' t')).run Tryz.prog w = .ok (n == n' && t.toList == t'.toList) w := by
  have hS : Tryz.prog.underlying 133 = some (.struct (Tryz.prog.fieldsOf 133)) := by kernel_rfl
  have hp : Tryz.prog.stoodInHeld 133 = false := by kernel_rfl
  rw [run_equalIn_agg w (d + 1) 133 _ _ hS hp]
  simp only [Program.fieldsOf, Tryz.underlying133]
  go_simp
  by_cases h1 : n = n' <;> by_cases h2 : t.toList = t'.toList <;> simp [h1, h2]
theorem bytes_same {a b : ByteArray} : (a.toList == b.toList) = true ↔ a = b := by
  rw [beq_iff_eq, ByteArray.toList_eq, ByteArray.toList_eq]
  exact ⟨fun h => ba_eq h, fun h => by rw [h]⟩
theorem run_ne93 (n n' : Int) (t t' : ByteArray) (w : World) : (binOp .neq 133 (bv n t) (bv n' t')).run Tryz.prog w = .ok (.bool (!(n == n' && t.toList == t'.toList))) w := by
  rw [run_neq_struct, show (10000 : Nat) = 9998 + 2 from rfl, equalIn93]
  rfl
theorem new3 (w : World) (o1 o2 o3 : Obj) : (((w.alloc o1).alloc o2).alloc o3).heap[w.heap.size]? = some o1 ∧ (((w.alloc o1).alloc o2).alloc o3).heap[w.heap.size + 1]? = some o2 ∧ (((w.alloc o1).alloc o2).alloc o3).heap[w.heap.size + 2]? = some o3 ∧ Below w.heap.size w (((w.alloc o1).alloc o2).alloc o3) := by
  obtain ⟨a, b⟩ := new2 w o1 o2
  have h3 := heap_alloc_new ((w.alloc o1).alloc o2) o3
  have hs : ((w.alloc o1).alloc o2).heap.size = w.heap.size + 2 := by simp
  have hb : Below ((w.alloc o1).alloc o2).heap.size ((w.alloc o1).alloc o2) (((w.alloc o1).alloc o2).alloc o3) := (Below.refl _ _).alloc (Nat.le_refl _) _
  rw [hs] at h3
  exact ⟨(hb.block _ (by omega)).trans a, (hb.block _ (by omega)).trans b, h3, (((Below.refl _ w).alloc (Nat.le_refl _) _).alloc (by simp) _).alloc (by simp; omega) _⟩
/-- An operation's value. -/
abbrev opv (ao : Option Addr) (m c : Nat) (k : Int) (s : ByteArray) (d n : Int) (t : ByteArray) : Value := .agg #[.slice ao m c, .int .i64 k, .string s, .int .i64 d, .int .i64 n, .string t]
def unN (d n : Int) : Int := if d = 1 then 0 else n
def unT (d : Int) (t : ByteArray) : ByteArray := if d = 1 then t else if d = 3 ∨ bringsD d = true then ⟨#[]⟩ else t
theorem Tryz.info133 : (Tryz.prog.info? 133).map (·.size) = some 2 := by kernel_rfl

set_option maxHeartbeats 2000000 in
set_option maxRecDepth 100000 in
theorem unnamed_any (ao : Option Addr) (m c : Nat) (k : Int) (s : ByteArray) (d n : Int) (t : ByteArray) (w : World) : Calls Tryz.prog 94 #[opv ao m c k s d n t] w fun e w' => e = .returned (bv (unN d n) (unT d t)) ∧ Below w.heap.size w w' := by
  have hbr := fun W => brings_any d W
  have hb : ∀ o1 o2 o3, Below w.heap.size w (((w.alloc o1).alloc o2).alloc o3) := fun o1 o2 o3 => (((Below.refl _ w).alloc (Nat.le_refl _) _).alloc (by simp) _).alloc (by simp; omega) _
  have hn : ∀ o1 o2 o3, (((w.alloc o1).alloc o2).alloc o3).heap[w.heap.size + 1]? = some o2 := fun o1 o2 o3 => (new3 w o1 o2 o3).2.1
  replace hb := hide (And.intro hb hn)
  clear hn
  unfold unN unT
  by_cases h1 : d = 1
  · subst h1
    rw [if_pos rfl, if_pos rfl]
    go_enter Tryz.func94, Tryz.ntmps94
    go_wp2
    refine ret_row (w.heap.size + 1) [.int .i64 0, .string t] rfl rfl Tryz.underlying133 rfl Tryz.info133 (hb.out.2 _ _ _) rfl ?_
    exact ⟨rfl, hb.out.1 _ _ _⟩
  · rw [if_neg h1, if_neg h1]
    have e1 : (d == 1) = false := by simpa using h1
    generalize bringsD d = V at *
    by_cases h3 : d = 3
    · subst h3
      rw [if_pos (.inl rfl)]
      go_enter Tryz.func94, Tryz.ntmps94
      go_wp2
      refine ret_row (w.heap.size + 1) [.int .i64 n, .string ⟨#[]⟩] rfl rfl Tryz.underlying133 rfl Tryz.info133 (hb.out.2 _ _ _) rfl ?_
      exact ⟨rfl, hb.out.1 _ _ _⟩
    · have e3 : (d == 3) = false := by simpa using h3
      cases V
      · rw [if_neg (by simp [h3])]
        go_enter Tryz.func94, Tryz.ntmps94
        go_wp2_with (go_at_call 131; refine (hbr _).mono ?_; rintro e w' ⟨rfl, hw'⟩; subst hw')
        refine ret_row (w.heap.size + 1) [.int .i64 n, .string t] rfl rfl Tryz.underlying133 rfl Tryz.info133 (hb.out.2 _ _ _) rfl ?_
        exact ⟨rfl, hb.out.1 _ _ _⟩
      · rw [if_pos (.inr rfl)]
        go_enter Tryz.func94, Tryz.ntmps94
        go_wp2_with (go_at_call 131; refine (hbr _).mono ?_; rintro e w' ⟨rfl, hw'⟩; subst hw')
        refine ret_row (w.heap.size + 1) [.int .i64 n, .string ⟨#[]⟩] rfl rfl Tryz.underlying133 rfl Tryz.info133 (hb.out.2 _ _ _) rfl ?_
        exact ⟨rfl, hb.out.1 _ _ _⟩

/-- What Check says: 0, or 2 (ErrArg), 7 (ErrType). -/
def argB (p : List ByteArray) (k : Int) (s : ByteArray) (d n : Int) (t : ByteArray) : Bool := pathB p && keyB s.data.toList && valuedK k && !(ofD d == 0) && (unN d n == 0 && (unT d t).toList == (⟨#[]⟩ : ByteArray).toList) && textB t
def checkE (p : List ByteArray) (k : Int) (s : ByteArray) (d n : Int) (t : ByteArray) : Int := if argB p k s d n t = true then (if ofD d = k then 0 else 7) else 2
/-- A slice of texts that can be read. -/
structure Rp (w : World) (ao : Option Addr) (c : Nat) (p : List ByteArray) : Prop where
  rs : Rs w ao p
  cap : p.length ≤ c
  nil : ao = none → c = 0
  len : p.length ≤ 140737488355328
theorem Rp.below {w w' : World} {ao : Option Addr} {c : Nat} {p : List ByteArray} (h : Rp w ao c p) (hb : Below w.heap.size w w') : Rp w' ao c p := ⟨h.rs.below hb, h.cap, h.nil, h.len⟩
set_option maxHeartbeats 4000000 in
set_option maxRecDepth 100000 in
theorem check_any {w : World} {ao : Option Addr} {c : Nat} {p : List ByteArray} (k : Int) (s : ByteArray) (d n : Int) (t : ByteArray) (h : Rp w ao c p) (hT : Tabs w) : Calls Tryz.prog 45 #[opv ao p.length c k s d n t] w fun e w' => e = .returned (.int .i64 (checkE p k s d n t)) ∧ Below w.heap.size w w' := by
  obtain ⟨N, hN⟩ : ∃ N, N = p.length := ⟨_, rfl⟩
  obtain ⟨w1, hw1⟩ : ∃ w1, w1 = w.alloc (.cells #[.slice ao N c, .int .i64 k, .string s, .int .i64 d, .int .i64 n, .string t] 34) := ⟨_, rfl⟩
  have b1 : Below w.heap.size w w1 := by rw [hw1]; exact (Below.refl _ w).alloc (Nat.le_refl _) _
  obtain ⟨p0, p1, p2, p3, p4, p5⟩ := new6 w (.slice ao N c) (.int .i64 k) (.string s) (.int .i64 d) (.int .i64 n) (.string t) 34
  rw [← hw1] at p0 p1 p2 p3 p4 p5
  have h1 := h.below b1
  have k43 := path_any h1.rs h1.cap h1.nil (hT.below b1) h1.len
  rw [← hN] at k43 ⊢
  have k44 := fun (W : World) (hW : Below w1.heap.size w1 W) => key_any s W ((hT.below b1).below hW)
  have k45 := fun W => valued_any k W
  have k19 := fun W => of_any d W
  have k46 := fun W : World => unnamed_any ao N c k s d n t W
  have k47 := fun W => text_any t W
  have hne := fun W => run_ne93 (unN d n) 0 (unT d t) ⟨#[]⟩ W
  have hex : checkE p k s d n t = if (pathB p && keyB s.data.toList && valuedK k && !(ofD d == 0) && (unN d n == 0 && (unT d t).toList == (⟨#[]⟩ : ByteArray).toList) && textB t) = true then (if ofD d = k then 0 else 7) else 2 := rfl
  rw [hex]
  generalize pathB p = V1 at *
  generalize keyB s.data.toList = V2 at *
  generalize valuedK k = V3 at *
  generalize ofD d = OD at *
  generalize unN d n = un at *
  generalize unT d t = ut at *
  generalize (un == 0 && ut.toList == (⟨#[]⟩ : ByteArray).toList) = V5 at *
  generalize textB t = V6 at *
  rw [hw1] at k43
  have HW := hide (And.intro hw1 b1)
  have HP := hide (And.intro p0 (And.intro p1 (And.intro p2 (And.intro p3 (And.intro p4 p5)))))
  clear hex h h1 hT p0 p1 p2 p3 p4 p5 hw1 hN b1
  have up : ∀ W, Below w1.heap.size w1 W → W.cell? ⟨w.heap.size, 0, none⟩ = some (.slice ao N c) ∧ W.cell? ⟨w.heap.size, 1, none⟩ = some (.int .i64 k) ∧ W.cell? ⟨w.heap.size, 2, none⟩ = some (.string s) ∧ W.cell? ⟨w.heap.size, 3, none⟩ = some (.int .i64 d) ∧ W.cell? ⟨w.heap.size, 4, none⟩ = some (.int .i64 n) ∧ W.cell? ⟨w.heap.size, 5, none⟩ = some (.string t) := fun W hW => keepC6 HP.out hW
  replace up := hide up
  cases V1
  · simp only [Bool.false_and, Bool.false_eq_true, if_false]
    go_enter Tryz.func45, Tryz.ntmps45
    go_wp2_with (first
      | (go_at_call 90; refine k43.mono ?_; rw [← HW.out.1]; rintro e w2 ⟨rfl, b2⟩; obtain ⟨x0, x1, x2, x3, x4, x5⟩ := up.out w2 b2; have H2 := hide b2; clear b2 k43))
    go_ret
    exact ⟨rfl, HW.out.2.trans (H2.out.mono HW.out.2.size)⟩
  cases V2
  · simp only [Bool.true_and, Bool.false_and, Bool.false_eq_true, if_false]
    go_enter Tryz.func45, Tryz.ntmps45
    go_wp2_with (first
      | (go_at_call 90; refine k43.mono ?_; rw [← HW.out.1]; rintro e w2 ⟨rfl, b2⟩; obtain ⟨x0, x1, x2, x3, x4, x5⟩ := up.out w2 b2; have H2 := hide b2; clear b2 k43)
      | (go_at_call 91; refine (k44 _ H2.out).mono ?_; rintro e w3 ⟨rfl, b3⟩; obtain ⟨y0, y1, y2, y3, y4, y5⟩ := up.out w3 (H2.out.trans (b3.mono H2.out.size)); have H3 := hide (H2.out.trans (b3.mono H2.out.size)); clear b3 k44 x0 x1 x2 x3 x4 x5))
    go_ret
    exact ⟨rfl, HW.out.2.trans (H3.out.mono HW.out.2.size)⟩
  cases V3
  · simp only [Bool.true_and, Bool.false_and, Bool.false_eq_true, if_false]
    go_enter Tryz.func45, Tryz.ntmps45
    go_wp2_with (first
      | (go_at_call 90; refine k43.mono ?_; rw [← HW.out.1]; rintro e w2 ⟨rfl, b2⟩; obtain ⟨x0, x1, x2, x3, x4, x5⟩ := up.out w2 b2; have H2 := hide b2; clear b2 k43)
      | (go_at_call 91; refine (k44 _ H2.out).mono ?_; rintro e w3 ⟨rfl, b3⟩; obtain ⟨y0, y1, y2, y3, y4, y5⟩ := up.out w3 (H2.out.trans (b3.mono H2.out.size)); have H3 := hide (H2.out.trans (b3.mono H2.out.size)); clear b3 k44 x0 x1 x2 x3 x4 x5)
      | (go_at_call 92; refine (k45 _).mono ?_; rintro e w' ⟨rfl, hw'⟩; subst hw'; clear k45))
    go_ret
    exact ⟨rfl, HW.out.2.trans (H3.out.mono HW.out.2.size)⟩
  by_cases hO : OD = 0
  · subst hO
    simp only [Bool.true_and, beq_self_eq_true, Bool.not_true, Bool.false_and, Bool.false_eq_true, if_false]
    go_enter Tryz.func45, Tryz.ntmps45
    go_wp2_with (first
      | (go_at_call 90; refine k43.mono ?_; rw [← HW.out.1]; rintro e w2 ⟨rfl, b2⟩; obtain ⟨x0, x1, x2, x3, x4, x5⟩ := up.out w2 b2; have H2 := hide b2; clear b2 k43)
      | (go_at_call 91; refine (k44 _ H2.out).mono ?_; rintro e w3 ⟨rfl, b3⟩; obtain ⟨y0, y1, y2, y3, y4, y5⟩ := up.out w3 (H2.out.trans (b3.mono H2.out.size)); have H3 := hide (H2.out.trans (b3.mono H2.out.size)); clear b3 k44 x0 x1 x2 x3 x4 x5)
      | (go_at_call 92; refine (k45 _).mono ?_; rintro e w' ⟨rfl, hw'⟩; subst hw'; clear k45)
      | (go_at_call 93; refine (k19 _).mono ?_; rintro e w' ⟨rfl, hw'⟩; subst hw'))
    go_ret
    exact ⟨rfl, HW.out.2.trans (H3.out.mono HW.out.2.size)⟩
  have eO : (OD == 0) = false := by simpa using hO
  cases V5
  · simp only [Bool.true_and, eO, Bool.not_false, Bool.false_and, Bool.false_eq_true, if_false]
    go_enter Tryz.func45, Tryz.ntmps45
    go_wp2_with (first
      | (go_at_call 90; refine k43.mono ?_; rw [← HW.out.1]; rintro e w2 ⟨rfl, b2⟩; obtain ⟨x0, x1, x2, x3, x4, x5⟩ := up.out w2 b2; have H2 := hide b2; clear b2 k43)
      | (go_at_call 91; refine (k44 _ H2.out).mono ?_; rintro e w3 ⟨rfl, b3⟩; obtain ⟨y0, y1, y2, y3, y4, y5⟩ := up.out w3 (H2.out.trans (b3.mono H2.out.size)); have H3 := hide (H2.out.trans (b3.mono H2.out.size)); clear b3 k44 x0 x1 x2 x3 x4 x5)
      | (go_at_call 92; refine (k45 _).mono ?_; rintro e w' ⟨rfl, hw'⟩; subst hw'; clear k45)
      | (go_at_call 93; refine (k19 _).mono ?_; rintro e w' ⟨rfl, hw'⟩; subst hw')
      | (go_at_call 94; refine (k46 _).mono ?_; rintro e w4 ⟨rfl, b4⟩; obtain ⟨z0, z1, z2, z3, z4, z5⟩ := up.out w4 (H3.out.trans (b4.mono H3.out.size)); have H4 := hide (H3.out.trans (b4.mono H3.out.size)); clear b4 k46 y0 y1 y2 y3 y4 y5))
    go_ret
    exact ⟨rfl, HW.out.2.trans (H4.out.mono HW.out.2.size)⟩
  cases V6
  · simp only [Bool.true_and, eO, Bool.not_false, Bool.and_false, Bool.false_eq_true, if_false]
    go_enter Tryz.func45, Tryz.ntmps45
    go_wp2_with (first
      | (go_at_call 90; refine k43.mono ?_; rw [← HW.out.1]; rintro e w2 ⟨rfl, b2⟩; obtain ⟨x0, x1, x2, x3, x4, x5⟩ := up.out w2 b2; have H2 := hide b2; clear b2 k43)
      | (go_at_call 91; refine (k44 _ H2.out).mono ?_; rintro e w3 ⟨rfl, b3⟩; obtain ⟨y0, y1, y2, y3, y4, y5⟩ := up.out w3 (H2.out.trans (b3.mono H2.out.size)); have H3 := hide (H2.out.trans (b3.mono H2.out.size)); clear b3 k44 x0 x1 x2 x3 x4 x5)
      | (go_at_call 92; refine (k45 _).mono ?_; rintro e w' ⟨rfl, hw'⟩; subst hw'; clear k45)
      | (go_at_call 93; refine (k19 _).mono ?_; rintro e w' ⟨rfl, hw'⟩; subst hw')
      | (go_at_call 94; refine (k46 _).mono ?_; rintro e w4 ⟨rfl, b4⟩; obtain ⟨z0, z1, z2, z3, z4, z5⟩ := up.out w4 (H3.out.trans (b4.mono H3.out.size)); have H4 := hide (H3.out.trans (b4.mono H3.out.size)); clear b4 k46 y0 y1 y2 y3 y4 y5)
      | (go_at_call 95; refine (k47 _).mono ?_; rintro e w' ⟨rfl, hw'⟩; subst hw'; clear k47))
    go_ret
    exact ⟨rfl, HW.out.2.trans (H4.out.mono HW.out.2.size)⟩
  simp only [Bool.true_and, eO, Bool.not_false, if_true]
  by_cases hk : OD = k
  · subst hk
    rw [if_pos rfl]
    go_enter Tryz.func45, Tryz.ntmps45
    go_upto_region 8 with (first
      | (go_at_call 90; refine k43.mono ?_; rw [← HW.out.1]; rintro e w2 ⟨rfl, b2⟩; obtain ⟨x0, x1, x2, x3, x4, x5⟩ := up.out w2 b2; have H2 := hide b2; clear b2 k43)
      | (go_at_call 91; refine (k44 _ H2.out).mono ?_; rintro e w3 ⟨rfl, b3⟩; obtain ⟨y0, y1, y2, y3, y4, y5⟩ := up.out w3 (H2.out.trans (b3.mono H2.out.size)); have H3 := hide (H2.out.trans (b3.mono H2.out.size)); clear b3 k44 x0 x1 x2 x3 x4 x5)
      | (go_at_call 92; refine (k45 _).mono ?_; rintro e w' ⟨rfl, hw'⟩; subst hw'; clear k45)
      | (go_at_call 93; refine (k19 _).mono ?_; rintro e w' ⟨rfl, hw'⟩; subst hw')
      | (go_at_call 94; refine (k46 _).mono ?_; rintro e w4 ⟨rfl, b4⟩; obtain ⟨z0, z1, z2, z3, z4, z5⟩ := up.out w4 (H3.out.trans (b4.mono H3.out.size)); have H4 := hide (H3.out.trans (b4.mono H3.out.size)); clear b4 k46 y0 y1 y2 y3 y4 y5)
      | (go_at_call 95; refine (k47 _).mono ?_; rintro e w' ⟨rfl, hw'⟩; subst hw'; clear k47))
    go_quiet (first | (go_at_call 93; refine Calls.quiet_of_same (k19 _)))
    go_wp2
    go_ret
    exact ⟨rfl, HW.out.2.trans ((below_drw H4.out _).mono HW.out.2.size)⟩
  · have ek : (OD == k) = false := by simpa using hk
    rw [if_neg hk]
    go_enter Tryz.func45, Tryz.ntmps45
    go_upto_region 8 with (first
      | (go_at_call 90; refine k43.mono ?_; rw [← HW.out.1]; rintro e w2 ⟨rfl, b2⟩; obtain ⟨x0, x1, x2, x3, x4, x5⟩ := up.out w2 b2; have H2 := hide b2; clear b2 k43)
      | (go_at_call 91; refine (k44 _ H2.out).mono ?_; rintro e w3 ⟨rfl, b3⟩; obtain ⟨y0, y1, y2, y3, y4, y5⟩ := up.out w3 (H2.out.trans (b3.mono H2.out.size)); have H3 := hide (H2.out.trans (b3.mono H2.out.size)); clear b3 k44 x0 x1 x2 x3 x4 x5)
      | (go_at_call 92; refine (k45 _).mono ?_; rintro e w' ⟨rfl, hw'⟩; subst hw'; clear k45)
      | (go_at_call 93; refine (k19 _).mono ?_; rintro e w' ⟨rfl, hw'⟩; subst hw')
      | (go_at_call 94; refine (k46 _).mono ?_; rintro e w4 ⟨rfl, b4⟩; obtain ⟨z0, z1, z2, z3, z4, z5⟩ := up.out w4 (H3.out.trans (b4.mono H3.out.size)); have H4 := hide (H3.out.trans (b4.mono H3.out.size)); clear b4 k46 y0 y1 y2 y3 y4 y5)
      | (go_at_call 95; refine (k47 _).mono ?_; rintro e w' ⟨rfl, hw'⟩; subst hw'; clear k47))
    go_quiet (first | (go_at_call 93; refine Calls.quiet_of_same (k19 _)))
    go_wp2
    go_ret
    exact ⟨rfl, HW.out.2.trans ((below_drw H4.out _).mono HW.out.2.size)⟩
/-- The document's way: both lists are gone through side by side. -/
theorem new2b (w : World) (o1 o2 : Obj) : ((w.alloc o1).alloc o2).heap[w.heap.size]? = some o1 ∧ ((w.alloc o1).alloc o2).heap[w.heap.size + 1]? = some o2 ∧ Below w.heap.size w ((w.alloc o1).alloc o2) := by
  have h1 := heap_alloc_new w o1
  have h2 := heap_alloc_new (w.alloc o1) o2
  have hs : (w.alloc o1).heap.size = w.heap.size + 1 := by simp
  have b1 : Below w.heap.size w (w.alloc o1) := (Below.refl _ w).alloc (Nat.le_refl _) _
  have b2 : Below (w.alloc o1).heap.size (w.alloc o1) ((w.alloc o1).alloc o2) := (Below.refl _ _).alloc (Nat.le_refl _) _
  rw [hs] at h2
  exact ⟨(b2.block _ (by omega)).trans h1, h2, b1.trans (b2.mono b1.size)⟩
end Go.Proofs.YtpepgoelnagoaaaGreatDoor.Ki
