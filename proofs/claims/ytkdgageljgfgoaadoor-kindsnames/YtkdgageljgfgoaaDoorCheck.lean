/-
  kinds: unnamed 30, Check 13, Stamped 15.
-/
import Derived.Test.YtkdgageljgfgoaaDoorEqs9
import Derived.Test.YtkdgageljgfgoaaDoorPath
namespace Go.Proofs.YtkdgageljgfgoaaDoor
open Go.RowKit Go.Shelf
set_option linter.unusedSimpArgs false
attribute [local go_sem] Oper.semAt_some

theorem new3 (w : World) (o1 o2 o3 : Obj) : (((w.alloc o1).alloc o2).alloc o3).heap[w.heap.size]? = some o1 ∧ (((w.alloc o1).alloc o2).alloc o3).heap[w.heap.size + 1]? = some o2 ∧ (((w.alloc o1).alloc o2).alloc o3).heap[w.heap.size + 2]? = some o3 ∧ Below w.heap.size w (((w.alloc o1).alloc o2).alloc o3) := by
  obtain ⟨a, b⟩ := new2 w o1 o2
  have h3 := heap_alloc_new ((w.alloc o1).alloc o2) o3
  have hs : ((w.alloc o1).alloc o2).heap.size = w.heap.size + 2 := by simp
  have hb : Below ((w.alloc o1).alloc o2).heap.size ((w.alloc o1).alloc o2) (((w.alloc o1).alloc o2).alloc o3) := (Below.refl _ _).alloc (Nat.le_refl _) _
  rw [hs] at h3
  exact ⟨(hb.block _ (by omega)).trans a, (hb.block _ (by omega)).trans b, h3, (((Below.refl _ w).alloc (Nat.le_refl _) _).alloc (by simp) _).alloc (by simp; omega) _⟩
/-- An operation's value. -/
abbrev opv (ao : Option Addr) (m c : Nat) (k : Int) (s : ByteArray) (d n : Int) (t : ByteArray) : Value := .agg #[.slice ao m c, .int .i64 k, .string s, .int .i64 d, .int .i64 n, .string t]
def unN (d n : Int) : Int := if d = 1 then 0 else n
def unT (d : Int) (t : ByteArray) : ByteArray := if d = 1 then t else if d = 3 ∨ bringsD d = true then ⟨#[]⟩ else t
theorem Tryd.info83 : (Tryd.prog.info? 83).map (·.size) = some 2 := by kernel_rfl

set_option maxHeartbeats 2000000 in
set_option maxRecDepth 100000 in
theorem unnamed_any (ao : Option Addr) (m c : Nat) (k : Int) (s : ByteArray) (d n : Int) (t : ByteArray) (w : World) : Calls Tryd.prog 39 #[opv ao m c k s d n t] w fun e w' => e = .returned (bv (unN d n) (unT d t)) ∧ Below w.heap.size w w' := by
  have hbr := fun W => brings_any d W
  have hb : ∀ o1 o2 o3, Below w.heap.size w (((w.alloc o1).alloc o2).alloc o3) := fun o1 o2 o3 => (((Below.refl _ w).alloc (Nat.le_refl _) _).alloc (by simp) _).alloc (by simp; omega) _
  have hn : ∀ o1 o2 o3, (((w.alloc o1).alloc o2).alloc o3).heap[w.heap.size + 1]? = some o2 := fun o1 o2 o3 => (new3 w o1 o2 o3).2.1
  replace hb := hide (And.intro hb hn)
  clear hn
  unfold unN unT
  by_cases h1 : d = 1
  · subst h1
    rw [if_pos rfl, if_pos rfl]
    go_enter Tryd.func39, Tryd.ntmps39
    go_wp2
    refine ret_row (w.heap.size + 1) [.int .i64 0, .string t] rfl rfl Tryd.underlying83 rfl Tryd.info83 (hb.out.2 _ _ _) rfl ?_
    exact ⟨rfl, hb.out.1 _ _ _⟩
  · rw [if_neg h1, if_neg h1]
    have e1 : (d == 1) = false := by simpa using h1
    generalize bringsD d = V at *
    by_cases h3 : d = 3
    · subst h3
      rw [if_pos (.inl rfl)]
      go_enter Tryd.func39, Tryd.ntmps39
      go_wp2
      refine ret_row (w.heap.size + 1) [.int .i64 n, .string ⟨#[]⟩] rfl rfl Tryd.underlying83 rfl Tryd.info83 (hb.out.2 _ _ _) rfl ?_
      exact ⟨rfl, hb.out.1 _ _ _⟩
    · have e3 : (d == 3) = false := by simpa using h3
      cases V
      · rw [if_neg (by simp [h3])]
        go_enter Tryd.func39, Tryd.ntmps39
        go_wp2_with (go_at_call 59; refine (hbr _).mono ?_; rintro e w' ⟨rfl, hw'⟩; subst hw')
        refine ret_row (w.heap.size + 1) [.int .i64 n, .string t] rfl rfl Tryd.underlying83 rfl Tryd.info83 (hb.out.2 _ _ _) rfl ?_
        exact ⟨rfl, hb.out.1 _ _ _⟩
      · rw [if_pos (.inr rfl)]
        go_enter Tryd.func39, Tryd.ntmps39
        go_wp2_with (go_at_call 59; refine (hbr _).mono ?_; rintro e w' ⟨rfl, hw'⟩; subst hw')
        refine ret_row (w.heap.size + 1) [.int .i64 n, .string ⟨#[]⟩] rfl rfl Tryd.underlying83 rfl Tryd.info83 (hb.out.2 _ _ _) rfl ?_
        exact ⟨rfl, hb.out.1 _ _ _⟩

/-- What Check says: 0, or 2 (ErrArg), 7 (ErrType). -/
def argB (p : List ByteArray) (k : Int) (s : ByteArray) (d n : Int) (t : ByteArray) : Bool := pathB p && keyB s.data.toList && valuedK k && !(ofD d == 0) && (unN d n == 0 && (unT d t).toList == (⟨#[]⟩ : ByteArray).toList) && textB t
def checkE (p : List ByteArray) (k : Int) (s : ByteArray) (d n : Int) (t : ByteArray) : Int := if argB p k s d n t = true then (if ofD d = k then 0 else 7) else 2
/-- A slice of texts that can be read. -/
structure Rp (w : World) (ao : Option Addr) (c : Nat) (p : List ByteArray) : Prop where
  rs : Rs w ao p
  cap : p.length ≤ c
  nil : ao = none → c = 0
  len : p.length ≤ 140737488355328
theorem Rp.below {w w' : World} {ao : Option Addr} {c : Nat} {p : List ByteArray} (h : Rp w ao c p) (hb : Below w.heap.size w w') : Rp w' ao c p := ⟨h.rs.below hb, h.cap, h.nil, h.len⟩
set_option maxHeartbeats 4000000 in
set_option maxRecDepth 100000 in
theorem check_any {w : World} {ao : Option Addr} {c : Nat} {p : List ByteArray} (k : Int) (s : ByteArray) (d n : Int) (t : ByteArray) (h : Rp w ao c p) (hT : Tabs w) : Calls Tryd.prog 21 #[opv ao p.length c k s d n t] w fun e w' => e = .returned (.int .i64 (checkE p k s d n t)) ∧ Below w.heap.size w w' := by
  obtain ⟨N, hN⟩ : ∃ N, N = p.length := ⟨_, rfl⟩
  obtain ⟨w1, hw1⟩ : ∃ w1, w1 = w.alloc (.cells #[.slice ao N c, .int .i64 k, .string s, .int .i64 d, .int .i64 n, .string t] 50) := ⟨_, rfl⟩
  have b1 : Below w.heap.size w w1 := by rw [hw1]; exact (Below.refl _ w).alloc (Nat.le_refl _) _
  obtain ⟨p0, p1, p2, p3, p4, p5⟩ := new6 w (.slice ao N c) (.int .i64 k) (.string s) (.int .i64 d) (.int .i64 n) (.string t) 50
  rw [← hw1] at p0 p1 p2 p3 p4 p5
  have h1 := h.below b1
  have k43 := path_any h1.rs h1.cap h1.nil (hT.below b1) h1.len
  rw [← hN] at k43 ⊢
  have k44 := fun (W : World) (hW : Below w1.heap.size w1 W) => key_any s W ((hT.below b1).below hW)
  have k45 := fun W => valued_any k W
  have k19 := fun W => of_any d W
  have k46 := fun W : World => unnamed_any ao N c k s d n t W
  have k47 := fun W => text_any t W
  have hne := fun W => run_ne93 (unN d n) 0 (unT d t) ⟨#[]⟩ W
  have hex : checkE p k s d n t = if (pathB p && keyB s.data.toList && valuedK k && !(ofD d == 0) && (unN d n == 0 && (unT d t).toList == (⟨#[]⟩ : ByteArray).toList) && textB t) = true then (if ofD d = k then 0 else 7) else 2 := rfl
  rw [hex]
  generalize pathB p = V1 at *
  generalize keyB s.data.toList = V2 at *
  generalize valuedK k = V3 at *
  generalize ofD d = OD at *
  generalize unN d n = un at *
  generalize unT d t = ut at *
  generalize (un == 0 && ut.toList == (⟨#[]⟩ : ByteArray).toList) = V5 at *
  generalize textB t = V6 at *
  rw [hw1] at k43
  have HW := hide (And.intro hw1 b1)
  have HP := hide (And.intro p0 (And.intro p1 (And.intro p2 (And.intro p3 (And.intro p4 p5)))))
  clear hex h h1 hT p0 p1 p2 p3 p4 p5 hw1 hN b1
  have up : ∀ W, Below w1.heap.size w1 W → W.cell? ⟨w.heap.size, 0, none⟩ = some (.slice ao N c) ∧ W.cell? ⟨w.heap.size, 1, none⟩ = some (.int .i64 k) ∧ W.cell? ⟨w.heap.size, 2, none⟩ = some (.string s) ∧ W.cell? ⟨w.heap.size, 3, none⟩ = some (.int .i64 d) ∧ W.cell? ⟨w.heap.size, 4, none⟩ = some (.int .i64 n) ∧ W.cell? ⟨w.heap.size, 5, none⟩ = some (.string t) := fun W hW => keepC6 HP.out hW
  replace up := hide up
  cases V1
  · simp only [Bool.false_and, Bool.false_eq_true, if_false]
    go_enter Tryd.func21, Tryd.ntmps21
    go_wp2_with (first
      | (go_at_call 36; refine k43.mono ?_; rw [← HW.out.1]; rintro e w2 ⟨rfl, b2⟩; obtain ⟨x0, x1, x2, x3, x4, x5⟩ := up.out w2 b2; have H2 := hide b2; clear b2 k43))
    go_ret
    exact ⟨rfl, HW.out.2.trans (H2.out.mono HW.out.2.size)⟩
  cases V2
  · simp only [Bool.true_and, Bool.false_and, Bool.false_eq_true, if_false]
    go_enter Tryd.func21, Tryd.ntmps21
    go_wp2_with (first
      | (go_at_call 36; refine k43.mono ?_; rw [← HW.out.1]; rintro e w2 ⟨rfl, b2⟩; obtain ⟨x0, x1, x2, x3, x4, x5⟩ := up.out w2 b2; have H2 := hide b2; clear b2 k43)
      | (go_at_call 37; refine (k44 _ H2.out).mono ?_; rintro e w3 ⟨rfl, b3⟩; obtain ⟨y0, y1, y2, y3, y4, y5⟩ := up.out w3 (H2.out.trans (b3.mono H2.out.size)); have H3 := hide (H2.out.trans (b3.mono H2.out.size)); clear b3 k44 x0 x1 x2 x3 x4 x5))
    go_ret
    exact ⟨rfl, HW.out.2.trans (H3.out.mono HW.out.2.size)⟩
  cases V3
  · simp only [Bool.true_and, Bool.false_and, Bool.false_eq_true, if_false]
    go_enter Tryd.func21, Tryd.ntmps21
    go_wp2_with (first
      | (go_at_call 36; refine k43.mono ?_; rw [← HW.out.1]; rintro e w2 ⟨rfl, b2⟩; obtain ⟨x0, x1, x2, x3, x4, x5⟩ := up.out w2 b2; have H2 := hide b2; clear b2 k43)
      | (go_at_call 37; refine (k44 _ H2.out).mono ?_; rintro e w3 ⟨rfl, b3⟩; obtain ⟨y0, y1, y2, y3, y4, y5⟩ := up.out w3 (H2.out.trans (b3.mono H2.out.size)); have H3 := hide (H2.out.trans (b3.mono H2.out.size)); clear b3 k44 x0 x1 x2 x3 x4 x5)
      | (go_at_call 11; refine (k45 _).mono ?_; rintro e w' ⟨rfl, hw'⟩; subst hw'; clear k45))
    go_ret
    exact ⟨rfl, HW.out.2.trans (H3.out.mono HW.out.2.size)⟩
  by_cases hO : OD = 0
  · subst hO
    simp only [Bool.true_and, beq_self_eq_true, Bool.not_true, Bool.false_and, Bool.false_eq_true, if_false]
    go_enter Tryd.func21, Tryd.ntmps21
    go_wp2_with (first
      | (go_at_call 36; refine k43.mono ?_; rw [← HW.out.1]; rintro e w2 ⟨rfl, b2⟩; obtain ⟨x0, x1, x2, x3, x4, x5⟩ := up.out w2 b2; have H2 := hide b2; clear b2 k43)
      | (go_at_call 37; refine (k44 _ H2.out).mono ?_; rintro e w3 ⟨rfl, b3⟩; obtain ⟨y0, y1, y2, y3, y4, y5⟩ := up.out w3 (H2.out.trans (b3.mono H2.out.size)); have H3 := hide (H2.out.trans (b3.mono H2.out.size)); clear b3 k44 x0 x1 x2 x3 x4 x5)
      | (go_at_call 11; refine (k45 _).mono ?_; rintro e w' ⟨rfl, hw'⟩; subst hw'; clear k45)
      | (go_at_call 38; refine (k19 _).mono ?_; rintro e w' ⟨rfl, hw'⟩; subst hw'))
    go_ret
    exact ⟨rfl, HW.out.2.trans (H3.out.mono HW.out.2.size)⟩
  have eO : (OD == 0) = false := by simpa using hO
  cases V5
  · simp only [Bool.true_and, eO, Bool.not_false, Bool.false_and, Bool.false_eq_true, if_false]
    go_enter Tryd.func21, Tryd.ntmps21
    go_wp2_with (first
      | (go_at_call 36; refine k43.mono ?_; rw [← HW.out.1]; rintro e w2 ⟨rfl, b2⟩; obtain ⟨x0, x1, x2, x3, x4, x5⟩ := up.out w2 b2; have H2 := hide b2; clear b2 k43)
      | (go_at_call 37; refine (k44 _ H2.out).mono ?_; rintro e w3 ⟨rfl, b3⟩; obtain ⟨y0, y1, y2, y3, y4, y5⟩ := up.out w3 (H2.out.trans (b3.mono H2.out.size)); have H3 := hide (H2.out.trans (b3.mono H2.out.size)); clear b3 k44 x0 x1 x2 x3 x4 x5)
      | (go_at_call 11; refine (k45 _).mono ?_; rintro e w' ⟨rfl, hw'⟩; subst hw'; clear k45)
      | (go_at_call 38; refine (k19 _).mono ?_; rintro e w' ⟨rfl, hw'⟩; subst hw')
      | (go_at_call 39; refine (k46 _).mono ?_; rintro e w4 ⟨rfl, b4⟩; obtain ⟨z0, z1, z2, z3, z4, z5⟩ := up.out w4 (H3.out.trans (b4.mono H3.out.size)); have H4 := hide (H3.out.trans (b4.mono H3.out.size)); clear b4 k46 y0 y1 y2 y3 y4 y5))
    go_ret
    exact ⟨rfl, HW.out.2.trans (H4.out.mono HW.out.2.size)⟩
  cases V6
  · simp only [Bool.true_and, eO, Bool.not_false, Bool.and_false, Bool.false_eq_true, if_false]
    go_enter Tryd.func21, Tryd.ntmps21
    go_wp2_with (first
      | (go_at_call 36; refine k43.mono ?_; rw [← HW.out.1]; rintro e w2 ⟨rfl, b2⟩; obtain ⟨x0, x1, x2, x3, x4, x5⟩ := up.out w2 b2; have H2 := hide b2; clear b2 k43)
      | (go_at_call 37; refine (k44 _ H2.out).mono ?_; rintro e w3 ⟨rfl, b3⟩; obtain ⟨y0, y1, y2, y3, y4, y5⟩ := up.out w3 (H2.out.trans (b3.mono H2.out.size)); have H3 := hide (H2.out.trans (b3.mono H2.out.size)); clear b3 k44 x0 x1 x2 x3 x4 x5)
      | (go_at_call 11; refine (k45 _).mono ?_; rintro e w' ⟨rfl, hw'⟩; subst hw'; clear k45)
      | (go_at_call 38; refine (k19 _).mono ?_; rintro e w' ⟨rfl, hw'⟩; subst hw')
      | (go_at_call 39; refine (k46 _).mono ?_; rintro e w4 ⟨rfl, b4⟩; obtain ⟨z0, z1, z2, z3, z4, z5⟩ := up.out w4 (H3.out.trans (b4.mono H3.out.size)); have H4 := hide (H3.out.trans (b4.mono H3.out.size)); clear b4 k46 y0 y1 y2 y3 y4 y5)
      | (go_at_call 40; refine (k47 _).mono ?_; rintro e w' ⟨rfl, hw'⟩; subst hw'; clear k47))
    go_ret
    exact ⟨rfl, HW.out.2.trans (H4.out.mono HW.out.2.size)⟩
  simp only [Bool.true_and, eO, Bool.not_false, if_true]
  by_cases hk : OD = k
  · subst hk
    rw [if_pos rfl]
    go_enter Tryd.func21, Tryd.ntmps21
    go_upto_region 8 with (first
      | (go_at_call 36; refine k43.mono ?_; rw [← HW.out.1]; rintro e w2 ⟨rfl, b2⟩; obtain ⟨x0, x1, x2, x3, x4, x5⟩ := up.out w2 b2; have H2 := hide b2; clear b2 k43)
      | (go_at_call 37; refine (k44 _ H2.out).mono ?_; rintro e w3 ⟨rfl, b3⟩; obtain ⟨y0, y1, y2, y3, y4, y5⟩ := up.out w3 (H2.out.trans (b3.mono H2.out.size)); have H3 := hide (H2.out.trans (b3.mono H2.out.size)); clear b3 k44 x0 x1 x2 x3 x4 x5)
      | (go_at_call 11; refine (k45 _).mono ?_; rintro e w' ⟨rfl, hw'⟩; subst hw'; clear k45)
      | (go_at_call 38; refine (k19 _).mono ?_; rintro e w' ⟨rfl, hw'⟩; subst hw')
      | (go_at_call 39; refine (k46 _).mono ?_; rintro e w4 ⟨rfl, b4⟩; obtain ⟨z0, z1, z2, z3, z4, z5⟩ := up.out w4 (H3.out.trans (b4.mono H3.out.size)); have H4 := hide (H3.out.trans (b4.mono H3.out.size)); clear b4 k46 y0 y1 y2 y3 y4 y5)
      | (go_at_call 40; refine (k47 _).mono ?_; rintro e w' ⟨rfl, hw'⟩; subst hw'; clear k47))
    go_quiet (first | (go_at_call 38; refine Calls.quiet_of_same (k19 _)))
    go_wp2
    go_ret
    exact ⟨rfl, HW.out.2.trans ((below_drw H4.out _).mono HW.out.2.size)⟩
  · have ek : (OD == k) = false := by simpa using hk
    rw [if_neg hk]
    go_enter Tryd.func21, Tryd.ntmps21
    go_upto_region 8 with (first
      | (go_at_call 36; refine k43.mono ?_; rw [← HW.out.1]; rintro e w2 ⟨rfl, b2⟩; obtain ⟨x0, x1, x2, x3, x4, x5⟩ := up.out w2 b2; have H2 := hide b2; clear b2 k43)
      | (go_at_call 37; refine (k44 _ H2.out).mono ?_; rintro e w3 ⟨rfl, b3⟩; obtain ⟨y0, y1, y2, y3, y4, y5⟩ := up.out w3 (H2.out.trans (b3.mono H2.out.size)); have H3 := hide (H2.out.trans (b3.mono H2.out.size)); clear b3 k44 x0 x1 x2 x3 x4 x5)
      | (go_at_call 11; refine (k45 _).mono ?_; rintro e w' ⟨rfl, hw'⟩; subst hw'; clear k45)
      | (go_at_call 38; refine (k19 _).mono ?_; rintro e w' ⟨rfl, hw'⟩; subst hw')
      | (go_at_call 39; refine (k46 _).mono ?_; rintro e w4 ⟨rfl, b4⟩; obtain ⟨z0, z1, z2, z3, z4, z5⟩ := up.out w4 (H3.out.trans (b4.mono H3.out.size)); have H4 := hide (H3.out.trans (b4.mono H3.out.size)); clear b4 k46 y0 y1 y2 y3 y4 y5)
      | (go_at_call 40; refine (k47 _).mono ?_; rintro e w' ⟨rfl, hw'⟩; subst hw'; clear k47))
    go_quiet (first | (go_at_call 38; refine Calls.quiet_of_same (k19 _)))
    go_wp2
    go_ret
    exact ⟨rfl, HW.out.2.trans ((below_drw H4.out _).mono HW.out.2.size)⟩
end Go.Proofs.YtkdgageljgfgoaaDoor
