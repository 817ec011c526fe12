/-
  OPS: pieces 76, word 235, do 230, text 234, key 231, path 233, number 232: the source 'spoken'.
  OPS: text 234, key 231, path 233, number 232; the source 'spoken' is one (SrcOk).
  OPS: Parse 34.
  OPS: operations in a row of their own (Oq); the pieces of a text; ParseAll 36.
-/
import Derived.Test.YtpepgoelnagoaaaGreatDoorMg12
import Derived.Test.YtpepgoelnagoaaaGreatDoorMg6
import Derived.Lib.ParseIntBTie
namespace Go.Proofs.YtpepgoelnagoaaaGreatDoor
open Go.RowKit Go.Shelf
set_option linter.unusedSimpArgs false
set_option linter.unusedVariables false
attribute [local go_sem] Oper.semAt_some

set_option maxHeartbeats 1000000 in
set_option maxRecDepth 100000 in
theorem pieces_any (s sg : ByteArray) (w : World) (hs : s.size ≤ 1000000) : Calls Tryz.prog 76 #[.string s, .string sg] w fun e w' => ∃ M L S, e = .returned (.func (.func 117) #[] #[.pointer (some ⟨M, 0, none⟩), .pointer (some ⟨L, 0, none⟩), .pointer (some ⟨S, 0, none⟩)]) ∧ PcS w' M L S sg ⟨s, true⟩ ∧ w.heap.size ≤ M ∧ w.heap.size ≤ L ∧ w.heap.size ≤ S ∧ Below w.heap.size w w' := by
  have hmf : ∀ (f : Fn) (a b : Array Value) (W : World), (Instr.makeFunc f a b).run Tryz.prog W = .ok (.func f a b) W := fun _ _ _ _ => rfl
  obtain ⟨w3, hw3⟩ : ∃ r, r = ((w.alloc (.cells #[.string sg] 9)).alloc (.cells #[.string s] 9)).alloc (.cells #[.bool true] 4) := ⟨_, rfl⟩
  obtain ⟨n1, n2, n3, hb⟩ := Ki.new3 w (.cells #[.string sg] 9) (.cells #[.string s] 9) (.cells #[.bool true] 4)
  have hm : ∀ (x : Value), (((w.alloc (.cells #[.string sg] 9)).alloc (.cells #[.string ⟨#[]⟩] 9)).alloc (.cells #[x] 4)).heap[w.heap.size + 1]? = some (.cells #[.string ⟨#[]⟩] 9 (0, 0)) := fun x => (Ki.new3 w (.cells #[.string sg] 9) (.cells #[.string ⟨#[]⟩] 9) (.cells #[x] 4)).2.1
  go_enter Tryz.func76, Tryz.ntmps76
  go_wp2
  go_ret
  rw [← hw3] at n1 n2 n3 hb ⊢
  exact ⟨w.heap.size + 2, w.heap.size + 1, w.heap.size, rfl, ⟨n3, n2, n1, by omega, hs⟩, by omega, by omega, by omega, hb⟩

/-- Where the words of a text stand, since the world w0. -/
structure SpSt (w0 : World) (B M L S : Nat) (sg : ByteArray) (q : Pz) (W : World) : Prop where
  pc : PcS W M L S sg q
  old : Below w0.heap.size w0 W
  le : B ≤ W.heap.size
/-- What stands of it all the while. -/
structure SpIn (w0 : World) (B M L S : Nat) : Prop where
  env : EnvO w0
  m : w0.heap.size ≤ M ∧ M < B
  l : w0.heap.size ≤ L ∧ L < B
  s : w0.heap.size ≤ S ∧ S < B
theorem SpSt.below {w0 : World} {B M L S : Nat} {sg : ByteArray} {q : Pz} {W W' : World} (hi : SpIn w0 B M L S) (h : SpSt w0 B M L S sg q W) (hb : Below B W W') : SpSt w0 B M L S sg q W' := by
  have h1 := hi.m
  have h2 := hi.l
  have h3 := hi.s
  have h4 := h.le
  refine ⟨⟨(hb.block _ (by omega)).trans h.pc.m, (hb.block _ (by omega)).trans h.pc.l, (hb.block _ (by omega)).trans h.pc.s, h.pc.ne, h.pc.sz⟩, h.old.trans (hb.mono (by omega)), Nat.le_trans h4 hb.size⟩
theorem SpSt.step {w0 : World} {B M L S : Nat} {sg : ByteArray} {q q' : Pz} {W W1 w2 : World} (hi : SpIn w0 B M L S) (h : SpSt w0 B M L S sg q W) (hb : Below W.heap.size W W1) (hp : PcS w2 M L S sg q') (ho : Only (fun j => j = M ∨ j = L) W1 w2) : SpSt w0 B M L S sg q' w2 ∧ Only (fun j => j = M ∨ j = L) W w2 := by
  have h1 := hi.m
  have h2 := hi.l
  have h4 := h.le
  have h5 := hb.size
  have h6 := ho.size
  refine ⟨⟨hp, (h.old.trans (hb.mono h.old.size)).trans (ho.below (Nat.le_trans h.old.size h5) (fun j hj => by omega)), by omega⟩, ((Only.ofBelow hb).mono (fun _ _ e => e.elim)).trans ho (fun j hj e => e)⟩
theorem SpSt.env {w0 : World} {B M L S : Nat} {sg : ByteArray} {q : Pz} {W : World} (hi : SpIn w0 B M L S) (h : SpSt w0 B M L S sg q W) : EnvO W := hi.env.below h.old
abbrev spF (M L S : Nat) : Value := .func (.func 117) #[] #[.pointer (some ⟨M, 0, none⟩), .pointer (some ⟨L, 0, none⟩), .pointer (some ⟨S, 0, none⟩)]
abbrev spV (M L S : Nat) : Value := .agg #[spF M L S]

set_option maxHeartbeats 1000000 in
set_option maxRecDepth 100000 in
theorem word_st {w0 : World} {B M L S : Nat} {sg : ByteArray} {q : Pz} {W : World} (hi : SpIn w0 B M L S) (h : SpSt w0 B M L S sg q W) :
    Calls Tryz.prog 235 #[spV M L S] W fun e w' => e = .returned (.string (nextP sg.data.toList q).1) ∧ SpSt w0 B M L S sg (nextP sg.data.toList q).2.2 w' ∧ Only (fun j => j = M ∨ j = L) W w' := by
  obtain ⟨W1, hW1⟩ : ∃ r, r = W.alloc (.cells #[spF M L S] 113) := ⟨_, rfl⟩
  have d1 : Below W.heap.size W W1 := by rw [hW1]; exact (Below.refl _ W).alloc (Nat.le_refl _) _
  have k := next_any (h.pc.below d1) ((h.env hi).below d1).max
  have hst := fun w2 hp ho => SpSt.step (q' := (nextP sg.data.toList q).2.2) (w2 := w2) hi h d1 hp ho
  generalize nextP sg.data.toList q = R at k hst ⊢
  have c0 : W1.cell? ⟨W.heap.size, 0, none⟩ = some (spF M L S) := by rw [hW1]; exact (cell_of_row _ _ 0 _ 113 (0, 0) (heap_alloc_new _ _)).trans rfl
  have HW := hide (And.intro hW1 hst)
  clear h hi d1 hst hW1
  go_enter Tryz.func235, Tryz.ntmps235
  go_upto_region 1 with fail
  rw [← HW.out.1]
  go_wp2_with (go_at_call 117; refine k.mono ?_; rintro e w2 ⟨rfl, hp, ho⟩; have H2 := hide (HW.out.2 w2 hp ho); clear hp ho)
  go_ret
  exact ⟨rfl, H2.out⟩

def spD (sg : List UInt8) (q : Pz) : Int × Int × Pz := (if (Ki.ofWB Ki.doWs (nextP sg q).1).2 = true then (Ki.ofWB Ki.doWs (nextP sg q).1).1 else 0, if (Ki.ofWB Ki.doWs (nextP sg q).1).2 = true then 0 else 4, (nextP sg q).2.2)
def unP (r : Option (List UInt8)) : ByteArray × Int := match r with | some l => (⟨l.toArray⟩, 0) | none => (⟨#[]⟩, 4)
theorem unE_is (r : Option (List UInt8)) : unE r = .tuple #[.string (unP r).1, .int .i64 (unP r).2] := by cases r <;> rfl
def spT (sg : List UInt8) (q : Pz) : ByteArray × Int × Pz := ((unP (unwordB (nextP sg q).1.data.toList)).1, (unP (unwordB (nextP sg q).1.data.toList)).2, (nextP sg q).2.2)
def splitP (r : ByteArray × Int) : List ByteArray × Int := if r.2 = 0 then (match splitB r.1.data.toList with | some L => (keysOf L, 0) | none => ([], 4)) else ([], r.2)
def spP (sg : List UInt8) (q : Pz) : List ByteArray × Int × Pz := ((splitP (unP (unwordB (nextP sg q).1.data.toList))).1, (splitP (unP (unwordB (nextP sg q).1.data.toList))).2, (nextP sg q).2.2)
/-- The number that a word is just the text of. -/
def numW (w : ByteArray) : Option Int := match Lib.parseIntB 64 w.data.toList with | .ok v => if decL v = w.data.toList then some v else none | _ => none
def numP (r : Option Int) : Int × Int := match r with | some v => (v, 0) | none => (0, 4)
def spN (sg : List UInt8) (q : Pz) : Int × Int × Pz := ((numP (numW (nextP sg q).1)).1, (numP (numW (nextP sg q).1)).2, (nextP sg q).2.2)

theorem box113 {W : World} {M L S : Nat} : (W.alloc (.cells #[spF M L S] 113)).cell? ⟨W.heap.size, 0, none⟩ = some (spF M L S) := (cell_of_row _ _ 0 _ 113 (0, 0) (heap_alloc_new _ _)).trans rfl
/-- What is behind a call that makes nothing but new blocks. -/
theorem SpSt.after {w0 : World} {B M L S : Nat} {sg : ByteArray} {q : Pz} {W W1 W2 : World} (hi : SpIn w0 B M L S) (h : SpSt w0 B M L S sg q W1 ∧ Only (fun j => j = M ∨ j = L) W W1) (hb : Below W1.heap.size W1 W2) : SpSt w0 B M L S sg q W2 ∧ Only (fun j => j = M ∨ j = L) W W2 :=
  ⟨h.1.below hi (hb.mono h.1.le), h.2.trans ((Only.ofBelow hb).mono (fun _ _ e => e.elim)) (fun _ _ e => e)⟩
theorem SpSt.ahead {w0 : World} {B M L S : Nat} {sg : ByteArray} {q' : Pz} {W W1 W2 : World} (hi : SpIn w0 B M L S) (hb : Below W.heap.size W W1) (h : SpSt w0 B M L S sg q' W2 ∧ Only (fun j => j = M ∨ j = L) W1 W2) : SpSt w0 B M L S sg q' W2 ∧ Only (fun j => j = M ∨ j = L) W W2 :=
  ⟨h.1, ((Only.ofBelow hb).mono (fun _ _ e => e.elim)).trans h.2 (fun _ _ e => e)⟩

set_option maxHeartbeats 1000000 in
set_option maxRecDepth 100000 in
theorem do_st {w0 : World} {B M L S : Nat} {sg : ByteArray} {q : Pz} {W : World} (hi : SpIn w0 B M L S) (h : SpSt w0 B M L S sg q W) :
    Calls Tryz.prog 230 #[spV M L S] W fun e w' => e = .returned (.tuple #[.int .i64 (spD sg.data.toList q).1, .int .i64 (spD sg.data.toList q).2.1]) ∧ SpSt w0 B M L S sg (spD sg.data.toList q).2.2 w' ∧ Only (fun j => j = M ∨ j = L) W w' := by
  obtain ⟨W1, hW1⟩ : ∃ r, r = W.alloc (.cells #[spF M L S] 113) := ⟨_, rfl⟩
  have d1 : Below W.heap.size W W1 := by rw [hW1]; exact (Below.refl _ W).alloc (Nat.le_refl _) _
  have k := word_st hi (h.below hi (d1.mono h.le))
  have c0 : W1.cell? ⟨W.heap.size, 0, none⟩ = some (spF M L S) := by rw [hW1]; exact box113
  have hsp : spD sg.data.toList q = (if (Ki.ofWB Ki.doWs (nextP sg.data.toList q).1).2 = true then (Ki.ofWB Ki.doWs (nextP sg.data.toList q).1).1 else 0, if (Ki.ofWB Ki.doWs (nextP sg.data.toList q).1).2 = true then 0 else 4, (nextP sg.data.toList q).2.2) := rfl
  have k236 := fun W' => Ki.OfWordD (nextP sg.data.toList q).1 W'
  obtain ⟨X, hX⟩ : ∃ r, r = spD sg.data.toList q := ⟨_, rfl⟩
  rw [← hX] at hsp ⊢
  clear hX
  generalize nextP sg.data.toList q = R at k hsp k236 ⊢
  obtain ⟨R1, R2, R3⟩ := R
  dsimp only at k hsp k236
  generalize Ki.ofWB Ki.doWs R1 = O at hsp k236
  obtain ⟨O1, O2⟩ := O
  dsimp only at hsp k236
  have HW := hide (And.intro hW1 (And.intro hi d1))
  clear h hi d1 hW1
  cases O2
  · simp only [Bool.false_eq_true, if_false] at hsp
    subst hsp
    go_enter Tryz.func230, Tryz.ntmps230
    go_upto_region 1 with fail
    rw [← HW.out.1]
    go_wp2_with (first
      | (go_at_call 235; refine k.mono ?_; rintro e w2 ⟨rfl, hp⟩; have H2 := hide (SpSt.ahead HW.out.2.1 HW.out.2.2 hp); clear hp)
      | (go_at_call 236; refine (k236 _).mono ?_; rintro e w3 ⟨rfl, hb⟩; have H3 := hide (SpSt.after HW.out.2.1 H2.out hb); clear hb))
    go_ret2
    exact ⟨rfl, H3.out⟩
  · simp only [if_true] at hsp
    subst hsp
    go_enter Tryz.func230, Tryz.ntmps230
    go_upto_region 1 with fail
    rw [← HW.out.1]
    go_wp2_with (first
      | (go_at_call 235; refine k.mono ?_; rintro e w2 ⟨rfl, hp⟩; have H2 := hide (SpSt.ahead HW.out.2.1 HW.out.2.2 hp); clear hp)
      | (go_at_call 236; refine (k236 _).mono ?_; rintro e w3 ⟨rfl, hb⟩; have H3 := hide (SpSt.after HW.out.2.1 H2.out hb); clear hb))
    go_ret2
    exact ⟨rfl, H3.out⟩
end Go.Proofs.YtpepgoelnagoaaaGreatDoor
namespace Go.Proofs.YtpepgoelnagoaaaGreatDoor
open Go.RowKit Go.Shelf
set_option linter.unusedSimpArgs false
set_option linter.unusedVariables false
attribute [local go_sem] Oper.semAt_some

set_option maxHeartbeats 1000000 in
set_option maxRecDepth 100000 in
theorem text_st {w0 : World} {B M L S : Nat} {sg : ByteArray} {q : Pz} {W : World} (hi : SpIn w0 B M L S) (h : SpSt w0 B M L S sg q W) :
    Calls Tryz.prog 234 #[spV M L S] W fun e w' => e = .returned (.tuple #[.string (spT sg.data.toList q).1, .int .i64 (spT sg.data.toList q).2.1]) ∧ SpSt w0 B M L S sg (spT sg.data.toList q).2.2 w' ∧ Only (fun j => j = M ∨ j = L) W w' := by
  obtain ⟨W1, hW1⟩ : ∃ r, r = W.alloc (.cells #[spF M L S] 113) := ⟨_, rfl⟩
  have d1 : Below W.heap.size W W1 := by rw [hW1]; exact (Below.refl _ W).alloc (Nat.le_refl _) _
  have k := word_st hi (h.below hi (d1.mono h.le))
  have c0 : W1.cell? ⟨W.heap.size, 0, none⟩ = some (spF M L S) := by rw [hW1]; exact box113
  have hz := (nextP_sz (sg := sg.data.toList) h.pc.sz).1
  have hsp : spT sg.data.toList q = ((unP (unwordB (nextP sg.data.toList q).1.data.toList)).1, (unP (unwordB (nextP sg.data.toList q).1.data.toList)).2, (nextP sg.data.toList q).2.2) := rfl
  obtain ⟨X, hX⟩ : ∃ r, r = spT sg.data.toList q := ⟨_, rfl⟩
  rw [← hX] at hsp ⊢
  clear hX
  generalize nextP sg.data.toList q = R at k hsp hz ⊢
  obtain ⟨R1, R2, R3⟩ := R
  dsimp only at k hsp hz
  have k238 := fun W' => unword_any R1 W' hz
  rw [unE_is] at k238
  generalize unP (unwordB R1.data.toList) = U at k238 hsp
  obtain ⟨U1, U2⟩ := U
  dsimp only at k238 hsp
  subst hsp
  have HW := hide (And.intro hW1 (And.intro hi d1))
  clear h hi d1 hW1 hz
  go_enter Tryz.func234, Tryz.ntmps234
  go_upto_region 1 with fail
  rw [← HW.out.1]
  go_wp2_with (first
    | (go_at_call 235; refine k.mono ?_; rintro e w2 ⟨rfl, hp⟩; have H2 := hide (SpSt.ahead HW.out.2.1 HW.out.2.2 hp); clear hp)
    | (go_at_call 238; refine (k238 _).mono ?_; rintro e w3 ⟨rfl, hb⟩; have H3 := hide (SpSt.after HW.out.2.1 H2.out hb); clear hb))
  go_ret2
  exact ⟨rfl, H3.out⟩

set_option maxHeartbeats 1000000 in
set_option maxRecDepth 100000 in
theorem key_st {w0 : World} {B M L S : Nat} {sg : ByteArray} {q : Pz} {W : World} (hi : SpIn w0 B M L S) (h : SpSt w0 B M L S sg q W) :
    Calls Tryz.prog 231 #[spV M L S] W fun e w' => e = .returned (.tuple #[.string (spT sg.data.toList q).1, .int .i64 (spT sg.data.toList q).2.1]) ∧ SpSt w0 B M L S sg (spT sg.data.toList q).2.2 w' ∧ Only (fun j => j = M ∨ j = L) W w' := by
  obtain ⟨W1, hW1⟩ : ∃ r, r = W.alloc (.cells #[spF M L S] 113) := ⟨_, rfl⟩
  have d1 : Below W.heap.size W W1 := by rw [hW1]; exact (Below.refl _ W).alloc (Nat.le_refl _) _
  have k := text_st hi (h.below hi (d1.mono h.le))
  have c0 : W1.cell? ⟨W.heap.size, 0, none⟩ = some (spF M L S) := by rw [hW1]; exact box113
  generalize spT sg.data.toList q = X at k ⊢
  obtain ⟨U1, U2, R3⟩ := X
  dsimp only at k ⊢
  have HW := hide (And.intro hW1 (And.intro hi d1))
  clear h hi d1 hW1
  go_enter Tryz.func231, Tryz.ntmps231
  go_upto_region 1 with fail
  rw [← HW.out.1]
  go_wp2_with (go_at_call 234; refine k.mono ?_; rintro e w2 ⟨rfl, hp⟩; have H2 := hide (SpSt.ahead HW.out.2.1 HW.out.2.2 hp); clear hp)
  go_ret2
  exact ⟨rfl, H2.out⟩

theorem unword_len {l t : List UInt8} (h : unwordB l = some t) : t.length ≤ l.length := by
  have h1 := unword_sound h
  rw [← h1]
  unfold wordB
  split
  next h2 => subst h2; simp
  next h2 =>
    clear h1 h2 h
    induction t with
    | nil => simp
    | cons b r ih =>
      rw [List.flatMap_cons, List.length_append, List.length_cons]
      have : 0 < (wordByte b).length := List.length_pos_iff.2 (wordByte_ne b)
      omega
theorem unP_sz {R : ByteArray} (h : R.size ≤ 1000000) : (unP (unwordB R.data.toList)).1.size ≤ 1000000 := by
  cases hu : unwordB R.data.toList with
  | none => show (0 : Nat) ≤ _; omega
  | some t =>
    have := unword_len hu
    rw [← Lib.size_eq] at this
    show (⟨t.toArray⟩ : ByteArray).size ≤ _
    rw [arr_size]
    omega
theorem spP_len (sg : List UInt8) (q : Pz) : (spP sg q).1.length ≤ 1000000 := by
  show (splitP (unP (unwordB (nextP sg q).1.data.toList))).1.length ≤ _
  unfold splitP
  split
  · cases h : splitB (unP (unwordB (nextP sg q).1.data.toList)).1.data.toList with
    | none => simp
    | some L =>
      have := (path_sizes (split_sound h).1).1
      dsimp only
      omega
  · simp

set_option maxHeartbeats 2000000 in
set_option maxRecDepth 100000 in
theorem path_st {w0 : World} {B M L S : Nat} {sg : ByteArray} {q : Pz} {W : World} (hi : SpIn w0 B M L S) (h : SpSt w0 B M L S sg q W) :
    Calls Tryz.prog 233 #[spV M L S] W fun e w' => ∃ x, e = .returned (.tuple #[x, .int .i64 (spP sg.data.toList q).2.1]) ∧ Os w' W.heap.size x (spP sg.data.toList q).1 ∧ SpSt w0 B M L S sg (spP sg.data.toList q).2.2 w' ∧ Only (fun j => j = M ∨ j = L) W w' := by
  obtain ⟨W1, hW1⟩ : ∃ r, r = W.alloc (.cells #[spF M L S] 113) := ⟨_, rfl⟩
  have d1 : Below W.heap.size W W1 := by rw [hW1]; exact (Below.refl _ W).alloc (Nat.le_refl _) _
  have k := text_st hi (h.below hi (d1.mono h.le))
  have c0 : W1.cell? ⟨W.heap.size, 0, none⟩ = some (spF M L S) := by rw [hW1]; exact box113
  have hz := unP_sz (nextP_sz (sg := sg.data.toList) h.pc.sz).1
  have hsp : spP sg.data.toList q = ((splitP ((spT sg.data.toList q).1, (spT sg.data.toList q).2.1)).1, (splitP ((spT sg.data.toList q).1, (spT sg.data.toList q).2.1)).2, (spT sg.data.toList q).2.2) := rfl
  have hz' : (spT sg.data.toList q).1.size ≤ 1000000 := hz
  obtain ⟨X, hX⟩ : ∃ r, r = spP sg.data.toList q := ⟨_, rfl⟩
  rw [← hX] at hsp ⊢
  clear hX hz
  generalize spT sg.data.toList q = T at k hsp hz' ⊢
  obtain ⟨U1, U2, R3⟩ := T
  dsimp only at k hsp hz' ⊢
  have k237 := fun W' (hT : Tabs W') => split_any U1 W' hz' hT
  have HW := hide (And.intro hW1 (And.intro hi d1))
  clear h hi d1 hW1 hz'
  unfold splitP at hsp
  by_cases hu : U2 = 0
  · subst hu
    simp only [if_true] at hsp
    have HS := hide hsp
    clear hsp
    go_enter Tryz.func233, Tryz.ntmps233
    go_upto_region 1 with fail
    rw [← HW.out.1]
    go_upto_region 4 with (go_at_call 234; refine k.mono ?_; rintro e w2 ⟨rfl, hp⟩; have H2 := hide (SpSt.ahead HW.out.2.1 HW.out.2.2 hp); clear hp)
    have k237' := k237 w2 (H2.out.1.env HW.out.2.1).tabs
    have hsz : W.heap.size ≤ w2.heap.size := H2.out.2.size
    clear k237
    go_wp2_with fail
    refine k237'.mono ?_
    rintro e w3 ⟨(⟨hn, rfl⟩ | ⟨L', v, hn, rfl, ho⟩), hb⟩
    · have H3 := hide (SpSt.after HW.out.2.1 H2.out hb)
      have HN := hide hn
      clear hn hb k237'
      go_wp2
      go_ret2
      rw [HS.out, HN.out]
      exact ⟨_, rfl, Os.nil _ _, H3.out⟩
    · have H3 := hide (SpSt.after HW.out.2.1 H2.out hb)
      have HN := hide (And.intro hn (row_lift ho hsz : Os w3 W.heap.size v (keysOf L')))
      clear hn hb k237' ho
      go_wp2
      go_ret2
      rw [HS.out, HN.out.1]
      exact ⟨_, rfl, HN.out.2, H3.out⟩
  · rw [if_neg hu] at hsp
    subst hsp
    have hu1 : (U2 != 0) = true := by simpa using hu
    go_enter Tryz.func233, Tryz.ntmps233
    go_upto_region 1 with fail
    rw [← HW.out.1]
    go_wp2_with (go_at_call 234; refine k.mono ?_; rintro e w2 ⟨rfl, hp⟩; have H2 := hide (SpSt.ahead HW.out.2.1 HW.out.2.2 hp); clear hp)
    go_ret2
    exact ⟨_, rfl, Os.nil _ _, H2.out⟩

theorem parse_any (s : ByteArray) (w : World) (hs : s.size ≤ 1000000) (hk : (∃ v, Lib.parseIntB 64 s.data.toList = .ok v) ∨ EnvE w) : Calls Tryz.prog 80 #[.string s, .int .i64 10, .int .i64 64] w fun e w' => ∃ v z, e = .returned (.tuple #[.int .i64 v, z]) ∧ ((z = .nilIface ∧ Lib.parseIntB 64 s.data.toList = .ok v) ∨ ((∃ t p, z = .iface t p) ∧ ∀ v', Lib.parseIntB 64 s.data.toList ≠ .ok v')) ∧ Below w.heap.size w w' := by
  cases h : Lib.parseIntB 64 s.data.toList with
  | ok v =>
    refine (Tryz.strconv_ParseInt_10_at64_ok s (by omega) v h w).mono ?_
    rintro e w' ⟨rfl, h⟩
    refine ⟨v, _, rfl, .inl ⟨rfl, rfl⟩, ?_⟩
    rcases h with rfl | ⟨t, rfl⟩
    · exact Below.refl _ _
    · exact Lib.bytesWorld_below _ _ _
  | «syntax» =>
    have hE : EnvE w := hk.resolve_left (fun ⟨v, hv⟩ => by rw [h] at hv; cases hv)
    obtain ⟨t, p, hc⟩ := hE.syn
    refine (Tryz.strconv_ParseInt_10_at64_syntax s (by omega) h _ w hc (.inr ⟨t, p, rfl⟩)).mono ?_
    rintro e w' ⟨N, rfl, _, _, hb⟩
    exact ⟨_, _, rfl, .inr ⟨⟨_, _, rfl⟩, by simp⟩, hb⟩
  | range =>
    have hE : EnvE w := hk.resolve_left (fun ⟨v, hv⟩ => by rw [h] at hv; cases hv)
    obtain ⟨t, p, hc⟩ := hE.ran
    refine (Tryz.strconv_ParseInt_10_at64_range s (by omega) h _ w hc (.inr ⟨t, p, rfl⟩)).mono ?_
    rintro e w' ⟨N, rfl, _, _, hb⟩
    exact ⟨_, _, rfl, .inr ⟨⟨_, _, rfl⟩, by simp⟩, hb⟩
theorem str_eq {a b : ByteArray} (h : a.data.toList = b.data.toList) : a = b := Ki.ba_eq h
theorem str_ne' {a b : ByteArray} (h : a ≠ b) : (a.toList == b.toList) = false := by
  rw [ByteArray.toList_eq, ByteArray.toList_eq]
  simp only [beq_eq_false_iff_ne, ne_eq]
  exact fun e => h (str_eq e)
theorem ok_range {l : List UInt8} {v : Int} (h : Lib.parseIntB 64 l = .ok v) : I64 v := by
  have := Lib.parseIntB_bounds h
  have e : ((2 ^ (64 - 1) : Nat) : Int) = 9223372036854775808 := by decide
  rw [e] at this
  exact ⟨this.1, by omega⟩

set_option maxHeartbeats 4000000 in
set_option maxRecDepth 100000 in
theorem num_st {w0 : World} {B M L S : Nat} {sg : ByteArray} {q : Pz} {W : World} (hi : SpIn w0 B M L S) (h : SpSt w0 B M L S sg q W) (hk : (∃ v, Lib.parseIntB 64 (nextP sg.data.toList q).1.data.toList = .ok v) ∨ EnvE w0) :
    Calls Tryz.prog 232 #[spV M L S] W fun e w' => e = .returned (.tuple #[.int .i64 (spN sg.data.toList q).1, .int .i64 (spN sg.data.toList q).2.1]) ∧ SpSt w0 B M L S sg (spN sg.data.toList q).2.2 w' ∧ Only (fun j => j = M ∨ j = L) W w' := by
  obtain ⟨W1, hW1⟩ : ∃ r, r = W.alloc (.cells #[spF M L S] 113) := ⟨_, rfl⟩
  have d1 : Below W.heap.size W W1 := by rw [hW1]; exact (Below.refl _ W).alloc (Nat.le_refl _) _
  have k := word_st hi (h.below hi (d1.mono h.le))
  have c0 : W1.cell? ⟨W.heap.size, 0, none⟩ = some (spF M L S) := by rw [hW1]; exact box113
  have hz := (nextP_sz (sg := sg.data.toList) h.pc.sz).1
  have hsp : spN sg.data.toList q = ((numP (numW (nextP sg.data.toList q).1)).1, (numP (numW (nextP sg.data.toList q).1)).2, (nextP sg.data.toList q).2.2) := rfl
  obtain ⟨X, hX⟩ : ∃ r, r = spN sg.data.toList q := ⟨_, rfl⟩
  rw [← hX] at hsp ⊢
  clear hX
  generalize nextP sg.data.toList q = R at k hsp hz hk ⊢
  obtain ⟨R1, R2, R3⟩ := R
  dsimp only at k hsp hz hk
  have k80 := fun W' (hE : Below w0.heap.size w0 W') => parse_any R1 W' hz (hk.imp (fun h => h) (fun h => h.below hE))
  have k59 := fun (v : Int) (hv : I64 v) W' (hE : EnvO W') => format_any v W' hv hE.env
  have HW := hide (And.intro hW1 (And.intro hi d1))
  have HS := hide hsp
  clear h hi d1 hW1 hz hsp hk
  go_enter Tryz.func232, Tryz.ntmps232
  go_upto_region 1 with fail
  rw [← HW.out.1]
  go_upto_region 2 with (go_at_call 235; refine k.mono ?_; rintro e w2 ⟨rfl, hp⟩; have H2 := hide (SpSt.ahead HW.out.2.1 HW.out.2.2 hp); clear hp)
  have k80' := k80 w2 H2.out.1.old
  clear k80 k
  go_wp2_with fail
  refine k80'.mono ?_
  rintro e w3 ⟨v, z, rfl, hcase, hb⟩
  have H3 := hide (SpSt.after HW.out.2.1 H2.out hb)
  clear k80' hb
  rcases hcase with ⟨rfl, hok⟩ | ⟨⟨t, p, rfl⟩, hno⟩
  · have k59' := k59 v (ok_range hok) w3 (H3.out.1.env HW.out.2.1)
    clear k59
    by_cases hv : decL v = R1.data.toList
    · have he : (⟨(decL v).toArray⟩ : ByteArray) = R1 := str_eq (by simpa using hv)
      rw [he] at k59'
      have HN := hide (show numW R1 = some v by unfold numW; rw [hok]; exact if_pos hv)
      clear hok hv he
      have hee : (R1.toList == R1.toList) = true := by simp
      go_wp2_with (go_at_call 59; refine k59'.mono ?_; rintro e w4 ⟨rfl, hb⟩; have H4 := hide (SpSt.after HW.out.2.1 H3.out hb); clear hb)
      go_ret2
      rw [HS.out, HN.out]
      exact ⟨rfl, H4.out⟩
    · have he : (⟨(decL v).toArray⟩ : ByteArray) ≠ R1 := fun e => hv (by rw [← e])
      have hee := str_ne' he
      have HN := hide (show numW R1 = none by unfold numW; rw [hok]; exact if_neg hv)
      generalize (⟨(decL v).toArray⟩ : ByteArray) = Dv at k59' hee
      clear hok hv he
      go_wp2_with (go_at_call 59; refine k59'.mono ?_; rintro e w4 ⟨rfl, hb⟩; have H4 := hide (SpSt.after HW.out.2.1 H3.out hb); clear hb)
      go_ret2
      rw [HS.out, HN.out]
      exact ⟨rfl, H4.out⟩
  · have HN := hide (show numW R1 = none by
      unfold numW
      split
      next v' h => exact absurd h (hno v')
      next => rfl)
    clear hno k59
    go_wp2
    go_ret2
    rw [HS.out, HN.out]
    exact ⟨rfl, H3.out⟩
theorem spN_num (sg : List UInt8) (q : Pz) : I64 (spN sg q).1 := by
  show I64 (numP (numW (nextP sg q).1)).1
  have hz : I64 0 := ⟨by omega, by omega⟩
  cases h : numW (nextP sg q).1 with
  | none => exact hz
  | some v =>
    show I64 v
    unfold numW at h
    split at h
    next v' hok =>
      split at h
      · cases h; exact ok_range hok
      · cases h
    next => cases h

def spSrc (w0 : World) (B M L S : Nat) (sg : ByteArray) : Src Pz where
  T := 113
  v := spV M L S
  fd := 230
  fp := 233
  fk := 231
  fn := 232
  ft := 234
  D := fun j => j = M ∨ j = L
  B := B
  St := SpSt w0 B M L S sg
  pd := spD sg.data.toList
  pp := spP sg.data.toList
  pk := spT sg.data.toList
  pn := spN sg.data.toList
  pt := spT sg.data.toList
  okn := fun q => (∃ v, Lib.parseIntB 64 (nextP sg.data.toList q).1.data.toList = .ok v) ∨ EnvE w0
theorem enters230 : Enters Tryz.prog 230 := enters_of Tryz.func230 (by kernel_rfl) rfl
theorem enters231 : Enters Tryz.prog 231 := enters_of Tryz.func231 (by kernel_rfl) rfl
theorem enters232 : Enters Tryz.prog 232 := enters_of Tryz.func232 (by kernel_rfl) rfl
theorem enters233 : Enters Tryz.prog 233 := enters_of Tryz.func233 (by kernel_rfl) rfl
theorem enters234 : Enters Tryz.prog 234 := enters_of Tryz.func234 (by kernel_rfl) rfl
theorem spMd (M L S : Nat) (W : World) : (method 385 113 (spV M L S) "estuary/ops.do").run Tryz.prog W = .ok (230, spV M L S) W := by kernel_rfl
theorem spMp (M L S : Nat) (W : World) : (method 385 113 (spV M L S) "estuary/ops.path").run Tryz.prog W = .ok (233, spV M L S) W := by kernel_rfl
theorem spMk (M L S : Nat) (W : World) : (method 385 113 (spV M L S) "estuary/ops.key").run Tryz.prog W = .ok (231, spV M L S) W := by kernel_rfl
theorem spMn (M L S : Nat) (W : World) : (method 385 113 (spV M L S) "estuary/ops.number").run Tryz.prog W = .ok (232, spV M L S) W := by kernel_rfl
theorem spMt (M L S : Nat) (W : World) : (method 385 113 (spV M L S) "estuary/ops.text").run Tryz.prog W = .ok (234, spV M L S) W := by kernel_rfl
theorem spOk {w0 : World} {B M L S : Nat} (sg : ByteArray) (hi : SpIn w0 B M L S) : SrcOk (spSrc w0 B M L S sg) where
  lt := fun j hj => by have := hi.m; have := hi.l; rcases hj with rfl | rfl <;> (show _ < B; omega)
  le := fun q W h => SpSt.le h
  stable := fun q W W' h hb => SpSt.below hi h hb
  env := fun q W h => SpSt.env hi h
  qd := spMd M L S
  qp := spMp M L S
  qk := spMk M L S
  qn := spMn M L S
  qt := spMt M L S
  ed := enters230
  ep := enters233
  ek := enters231
  en := enters232
  et := enters234
  cd := fun q W h => do_st hi h
  cp := fun q W h => path_st hi h
  ck := fun q W h => key_st hi h
  cn := fun q W h hk => num_st hi h hk
  ct := fun q W h => text_st hi h
  num := fun q => spN_num _ q
  plen := fun q => spP_len _ q
end Go.Proofs.YtpepgoelnagoaaaGreatDoor
namespace Go.Proofs.YtpepgoelnagoaaaGreatDoor
open Go.RowKit Go.Shelf
set_option linter.unusedSimpArgs false
set_option linter.unusedVariables false
attribute [local go_sem] Oper.semAt_some

/-- What the words of a text say, without memory. -/
def spZ (sg : ByteArray) : Src Pz where
  T := 113
  v := .nilIface
  fd := 0
  fp := 0
  fk := 0
  fn := 0
  ft := 0
  D := fun _ => False
  B := 0
  St := fun _ _ => False
  pd := spD sg.data.toList
  pp := spP sg.data.toList
  pk := spT sg.data.toList
  pn := spN sg.data.toList
  pt := spT sg.data.toList
  okn := fun q => ∃ v, Lib.parseIntB 64 (nextP sg.data.toList q).1.data.toList = .ok v
abbrev blankS : ByteArray := ⟨#[32]⟩
def parseS (s : ByteArray) : Od × Int :=
  if (nextP [32] (rdO (spZ blankS) ⟨s, true⟩).2.2).2.1 = true then (odZ, 4) else readS (spZ blankS) ⟨s, true⟩
/-- Is the number's word, where there is one, one that is read without an error? -/
def okPI : List UInt8 → Bool := fun l => match Lib.parseIntB 64 l with | .ok _ => true | _ => false
theorem okPI_ex {l : List UInt8} (h : okPI l = true) : ∃ v, Lib.parseIntB 64 l = .ok v := by
  unfold okPI at h
  split at h
  next v hv => exact ⟨v, hv⟩
  next => cases h
def numOk (s : ByteArray) : Bool := if (rd3 (spZ blankS) ⟨s, true⟩).1.1 = 1 ∧ (rd3 (spZ blankS) ⟨s, true⟩).2.1 = 0 then okPI (nextP [32] (rd3 (spZ blankS) ⟨s, true⟩).2.2).1.data.toList else true
theorem read_spZ (w0 : World) (B M L S : Nat) (sg : ByteArray) (q : Pz) : readS (spSrc w0 B M L S sg) q = readS (spZ sg) q ∧ rdO (spSrc w0 B M L S sg) q = rdO (spZ sg) q := ⟨rfl, rfl⟩

set_option maxHeartbeats 4000000 in
set_option maxRecDepth 100000 in
theorem parse34_any (s : ByteArray) (w : World) (hs : s.size ≤ 1000000) (hE : EnvO w) (hok : numOk s = true ∨ EnvE w) : Calls Tryz.prog 34 #[.string s] w fun e w' => ∃ pa pc, e = .returned (.tuple #[odv pa (parseS s).1.p.length pc (parseS s).1, .int .i64 (parseS s).2]) ∧ Os w' w.heap.size (.slice pa (parseS s).1.p.length pc) (parseS s).1.p ∧ Below w.heap.size w w' := by
  have hmi : ∀ (v : Value) (W : World), (Instr.makeInterface 113 (.agg #[v])).run Tryz.prog W = .ok (.iface 113 (.agg #[v])) W := fun _ _ => by kernel_rfl
  obtain ⟨w1, hw1⟩ : ∃ r, r = w.alloc (.cells (oc6 (.slice none 0 0) 0 ⟨#[]⟩ 0 0 ⟨#[]⟩) 34) := ⟨_, rfl⟩
  have d1 : Below w.heap.size w w1 := by rw [hw1]; exact (Below.refl _ w).alloc (Nat.le_refl _) _
  have m1 : w1.heap[w.heap.size]? = some (.cells (oc6 (.slice none 0 0) 0 ⟨#[]⟩ 0 0 ⟨#[]⟩) 34 (0, 0)) := by rw [hw1]; exact heap_alloc_new _ _
  have s1 : w1.heap.size = w.heap.size + 1 := by rw [hw1]; simp
  have k76 := pieces_any s blankS w1 hs
  have hP : Hid (parseS s = if (nextP [32] (rdO (spZ blankS) ⟨s, true⟩).2.2).2.1 = true then (odZ, 4) else readS (spZ blankS) ⟨s, true⟩) := hide rfl
  obtain ⟨X, hX⟩ : ∃ r, r = parseS s := ⟨_, rfl⟩
  rw [← hX] at hP ⊢
  have HW := hide (And.intro hw1 (And.intro d1 (And.intro m1 (And.intro s1 (hE.below d1)))))
  have HOK := hide (show numOk s = true ∨ EnvE w1 from hok.imp (fun h => h) (fun h => h.below d1))
  clear hX hw1 d1 m1 s1 hE hs hok
  go_enter Tryz.func34, Tryz.ntmps34
  go_upto_region 1 with fail
  rw [← HW.out.1]
  go_upto_region 2 with (go_at_call 76; refine k76.mono ?_; rintro e w2 ⟨M, L, S, rfl, hpc, gM, gL, gS, hb⟩; have H2 := hide (And.intro hpc (And.intro gM (And.intro gL (And.intro gS hb)))); clear hpc gM gL gS hb k76)
  have hi : SpIn w1 w2.heap.size M L S := by
    obtain ⟨hpc, gM, gL, gS, hb⟩ := H2.out
    exact ⟨HW.out.2.2.2.2, ⟨gM, (Array.getElem?_eq_some_iff.1 hpc.m).1⟩, ⟨gL, (Array.getElem?_eq_some_iff.1 hpc.l).1⟩, ⟨gS, (Array.getElem?_eq_some_iff.1 hpc.s).1⟩⟩
  have hst : SpSt w1 w2.heap.size M L S blankS ⟨s, true⟩ w2 := ⟨H2.out.1, H2.out.2.2.2.2, Nat.le_refl _⟩
  have k70 := read_any (spOk blankS hi) (q := ⟨s, true⟩) (w := w2) hst (fun h1 h2 => by
    rcases HOK.out with h | h
    · refine .inl (okPI_ex ?_)
      unfold numOk at h
      rw [if_pos ⟨h1, h2⟩] at h
      exact h
    · exact .inr h)
  rw [(read_spZ w1 w2.heap.size M L S blankS ⟨s, true⟩).1, (read_spZ w1 w2.heap.size M L S blankS ⟨s, true⟩).2] at k70
  obtain ⟨R, hR⟩ : ∃ r, r = readS (spZ blankS) ⟨s, true⟩ := ⟨_, rfl⟩
  obtain ⟨Q, hQ⟩ : ∃ r, r = (rdO (spZ blankS) ⟨s, true⟩).2.2 := ⟨_, rfl⟩
  rw [← hR, ← hQ] at hP
  rw [← hR, ← hQ] at k70
  have HI := hide hi
  clear hi hst hR hQ
  have hT : (spSrc w1 w2.heap.size M L S blankS).T = 113 := rfl
  have hV : (spSrc w1 w2.heap.size M L S blankS).v = spV M L S := rfl
  rw [hT, hV] at k70
  clear hT hV
  obtain ⟨o, er⟩ := R
  dsimp only at k70
  obtain ⟨p, k, ks, d, n, t⟩ := o
  dsimp only at k70
  go_upto_region 3 with (go_at_call 70; refine k70.mono ?_; rintro e w3 ⟨pa, pc, rfl, hos, hst, ho⟩; have H3 := hide (And.intro hos (And.intro hst ho)); clear hos hst ho k70)
  obtain ⟨w4, hw4⟩ : ∃ r, r = w3.alloc (.cells (oc6 (.slice pa p.length pc) k ks d n t) 34) := ⟨_, rfl⟩
  rw [← hw4]
  have d4 : Below w3.heap.size w3 w4 := by rw [hw4]; exact (Below.refl _ _).alloc (Nat.le_refl _) _
  have m4 : w4.heap[w3.heap.size]? = some (.cells (oc6 (.slice pa p.length pc) k ks d n t) 34 (0, 0)) := by rw [hw4]; exact heap_alloc_new _ _
  have st4 : SpSt w1 w2.heap.size M L S blankS Q w4 := SpSt.below HI.out H3.out.2.1 (d4.mono H3.out.2.1.le)
  have k117 := next_any st4.pc (st4.env HI.out).max
  have hB : blankS.data.toList = [32] := rfl
  rw [hB] at k117
  obtain ⟨N, hN⟩ : ∃ r, r = nextP [32] Q := ⟨_, rfl⟩
  rw [← hN] at k117 hP
  have hfin : ∀ w5, Only (fun j => j = M ∨ j = L) w4 w5 → w5.heap[w.heap.size]? = some (.cells (oc6 (.slice none 0 0) 0 ⟨#[]⟩ 0 0 ⟨#[]⟩) 34 (0, 0)) ∧ w5.heap[w3.heap.size]? = some (.cells (oc6 (.slice pa p.length pc) k ks d n t) 34 (0, 0)) ∧ Below w.heap.size w w5 ∧ Os w5 w2.heap.size (.slice pa p.length pc) p ∧ w.heap.size < w2.heap.size := fun w5 h5 => by
    obtain ⟨-, d1, m1, s1, -⟩ := HW.out
    obtain ⟨hpc, gM, gL, gS, hb⟩ := H2.out
    obtain ⟨hos, -, ho⟩ := H3.out
    have hM := HI.out.m
    have hL := HI.out.l
    have z2 := hb.size
    have z3 := ho.size
    have a2 := (hb.block _ (by omega)).trans m1
    have a3 := (ho.block _ (by omega) (by show ¬ (w.heap.size = M ∨ w.heap.size = L); omega)).trans a2
    have a4 := (d4.block _ (by omega)).trans a3
    have z4 := d4.size
    refine ⟨(h5.block _ (by omega) (by omega)).trans a4, (h5.block _ (Array.getElem?_eq_some_iff.1 m4).1 (by omega)).trans m4, ?_, ?_, by omega⟩
    · exact (((d1.trans (hb.mono (by omega))).trans (ho.below (by omega) (fun j hj => by have : j = M ∨ j = L := hj; omega))).trans (d4.mono (by omega))).trans (h5.below (by omega) (fun j hj => by omega))
    · exact (hos.below d4).only h5 (fun j hj hd => by have := (World.ownsRow.lt hos j hj).1; omega)
  obtain ⟨⟨x0, x1, x2, x3, x4, x5⟩, f0, f1, f2, f3, f4, f5⟩ := blk6 m4
  have HF := hide hfin
  clear hfin m4 st4 d4 hw4 HI hB H2 H3 HW hN
  cases hm : N.2.1
  · rw [hm] at k117 hP
    rw [if_neg (by simp)] at hP
    have HP := hide hP
    clear hP hm x0 x1 x2 x3 x4 x5 f0 f1 f2 f3 f4 f5
    go_wp2_with (go_at_call 117; refine k117.mono ?_; rintro e w5 ⟨rfl, -, ho5⟩; have H5 := HF.out w5 ho5; clear ho5 HF k117; obtain ⟨⟨x0, x1, x2, x3, x4, x5⟩, f0, f1, f2, f3, f4, f5⟩ := blk6 H5.2.1; obtain ⟨⟨y0, y1, y2, y3, y4, y5⟩, g0, g1, g2, g3, g4, g5⟩ := blk6 H5.1; have H5 := hide H5)
    refine ret_row_tmp w.heap.size (oc6 (.slice pa p.length pc) k ks d n t).toList rfl rfl rfl Tryz.underlying34 rfl Tryz.info34z (set6 H5.out.1) rfl ?_
    rw [HP.out]
    exact ⟨pa, pc, rfl, row_lift (H5.out.2.2.2.1.only only6 (fun j hj hd => by have := (World.ownsRow.lt H5.out.2.2.2.1 j hj).1; have := H5.out.2.2.2.2; omega)) (by have := H5.out.2.2.2.2; omega), H5.out.2.2.1.trans (only6.below H5.out.2.2.1.size (fun j hj => by omega))⟩
  · rw [hm] at k117 hP
    rw [if_pos rfl] at hP
    have HP := hide hP
    clear hP hm x0 x1 x2 x3 x4 x5 f0 f1 f2 f3 f4 f5
    go_wp2_with (go_at_call 117; refine k117.mono ?_; rintro e w5 ⟨rfl, -, ho5⟩; have H5 := HF.out w5 ho5; clear ho5 HF k117; obtain ⟨⟨y0, y1, y2, y3, y4, y5⟩, g0, g1, g2, g3, g4, g5⟩ := blk6 H5.1; have H5 := hide H5)
    refine ret_row_tmp w.heap.size (oc6 (.slice none 0 0) 0 ⟨#[]⟩ 0 0 ⟨#[]⟩).toList rfl rfl rfl Tryz.underlying34 rfl Tryz.info34z (set6 H5.out.1) rfl ?_
    rw [HP.out]
    exact ⟨none, 0, rfl, Os.nil _ _, H5.out.2.2.1.trans (only6.below H5.out.2.2.1.size (fun j hj => by omega))⟩
end Go.Proofs.YtpepgoelnagoaaaGreatDoor
namespace Go.Proofs.YtpepgoelnagoaaaGreatDoor
open Go.RowKit Go.Shelf
set_option linter.unusedSimpArgs false
set_option linter.unusedVariables false
attribute [local go_sem] Oper.semAt_some

/-- An operation, and where its path lies. -/
abbrev Ox := Od × Option Addr × Nat
def oxC (x : Ox) : List Value := [.slice x.2.1 x.1.p.length x.2.2, .int .i64 x.1.k, .string x.1.s, .int .i64 x.1.d, .int .i64 x.1.n, .string x.1.t]
/-- The slice value v owns these operations, and their paths. -/
structure Oq (w : World) (B : Nat) (v : Value) (l : List Ox) : Prop where
  row : w.ownsRow B 34 6 v l.length (l.flatMap oxC)
  path : ∀ x ∈ l, Os w B (.slice x.2.1 x.1.p.length x.2.2) x.1.p
  plen : ∀ x ∈ l, x.1.p.length ≤ 1000000
def zero34 : Value := .agg #[.slice none 0 0, .int .i64 0, .string ⟨#[]⟩, .int .i64 0, .int .i64 0, .string ⟨#[]⟩]
theorem Tryz.info34 : (Tryz.prog.info? 34).map (fun i => (i.zero, i.size, i.bytes)) = some (some zero34, 6, 80) := by kernel_rfl
theorem Oq.nil (w : World) (B : Nat) : Oq w B (.slice none 0 0) [] := ⟨World.ownsRow_nil _ _ _ _, fun x h => (by cases h), fun x h => (by cases h)⟩
theorem Oq.only {w w' : World} {B : Nat} {v : Value} {l : List Ox} {D : Nat → Prop} (h : Oq w B v l) (ho : Only D w w') (hD : ∀ k, B ≤ k → ¬ D k) : Oq w' B v l :=
  ⟨ho.row h.row (fun k hk => hD k (World.ownsRow.lt h.row k hk).1), fun x hx => (h.path x hx).only ho (fun k hk => hD k (World.ownsRow.lt (h.path x hx) k hk).1), h.plen⟩
theorem Oq.below {w w' : World} {B : Nat} {v : Value} {l : List Ox} (h : Oq w B v l) (hb : Below w.heap.size w w') : Oq w' B v l := h.only (Only.ofBelow hb) (fun _ _ d => d)
theorem row_lift6 {w : World} {B B' e k n : Nat} {v : Value} {xs : List Value} (h : w.ownsRow B e k v n xs) (hB : B' ≤ B) : w.ownsRow B' e k v n xs := by
  rcases h with ⟨h1, h2 | ⟨g, cap, cur, e1, hb, r⟩⟩
  · exact ⟨h1, .inl h2⟩
  · exact ⟨h1, .inr ⟨g, cap, cur, e1, Nat.le_trans hB hb, r⟩⟩
theorem Oq.lift {w : World} {B B' : Nat} {v : Value} {l : List Ox} (h : Oq w B v l) (hB : B' ≤ B) : Oq w B' v l := ⟨row_lift6 h.row hB, fun x hx => row_lift6 (h.path x hx) hB, h.plen⟩
theorem oxC_get (l : List Ox) (i j : Nat) (x : Ox) (hx : l[i]? = some x) (hj : j < 6) : (l.flatMap oxC)[i * 6 + j]? = (oxC x)[j]? := by
  induction l generalizing i with
  | nil => simp at hx
  | cons y r ih =>
    rw [List.flatMap_cons]
    cases i with
    | zero =>
      simp only [List.getElem?_cons_zero, Option.some.injEq] at hx
      subst hx
      rw [Nat.zero_mul, Nat.zero_add, List.getElem?_append_left (by simp [oxC]; omega)]
    | succ i =>
      rw [List.getElem?_append_right (by simp [oxC]; omega)]
      have : (i + 1) * 6 + j - (oxC y).length = i * 6 + j := by simp [oxC]; omega
      rw [this]
      exact ih i (by simpa using hx)
theorem Oq.shape {w : World} {B : Nat} {v : Value} {l : List Ox} (h : Oq w B v l) : ∃ ao c, v = .slice ao l.length c ∧ Rq w ao (l.map Prod.fst) ∧ (∀ a, ao = some a → B ≤ a.block ∧ a.block < w.heap.size) ∧ (ao = none → c = 0) ∧ l.length ≤ c := by
  have hlt := World.ownsRow.lt h.row
  have hcells := fun g => World.ownsRow.cells h.row (g := g)
  rcases h.row.2 with ⟨rfl, hn⟩ | ⟨g, cap, cur, rfl, hb, hg, hnc, rest⟩
  · have hl : l = [] := List.eq_nil_of_length_eq_zero hn
    subst hl
    exact ⟨none, 0, rfl, Rq.nil _ _, by simp, fun _ => rfl, by simp⟩
  · refine ⟨some ⟨g, 0, none⟩, cap, rfl, ?_, ?_, by simp, hnc⟩
    · intro i o ho
      rw [List.getElem?_map] at ho
      obtain ⟨x, hx, rfl⟩ := Option.map_eq_some_iff.1 ho
      have hc := fun j (hj : j < 6) v' (hv : (oxC x)[j]? = some v') => hcells g rfl (i * 6 + j) v' (by rw [oxC_get l i j x hx hj]; exact hv)
      refine ⟨g, 0, x.2.1, x.2.2, rfl, ?_, ?_, ?_, ?_, ?_, ?_, ?_⟩
      · obtain ⟨ao, c, e, hr, -, hn', hc'⟩ := (h.path x (List.mem_of_getElem? hx)).shape
        simp only [Value.slice.injEq, true_and] at e
        obtain ⟨rfl, rfl⟩ := e
        have hm : x.1.p.length ≤ 140737488355328 := by have := h.plen x (List.mem_of_getElem? hx); omega
        exact ⟨hr, hc', hn', hm⟩
      · have := hc 0 (by omega) _ rfl; rw [add_lit] at this; simpa using this
      · have := hc 1 (by omega) _ rfl; rw [add_lit] at this; simpa using this
      · have := hc 2 (by omega) _ rfl; rw [add_lit] at this; simpa using this
      · have := hc 3 (by omega) _ rfl; rw [add_lit] at this; simpa using this
      · have := hc 4 (by omega) _ rfl; rw [add_lit] at this; simpa using this
      · have := hc 5 (by omega) _ rfl; rw [add_lit] at this; simpa using this
    · intro a ha
      cases ha
      exact hlt g rfl
/-- One operation more is laid behind. -/
theorem push_op {w : World} {B b : Nat} {v : Value} {l : List Ox} {x : Ox} (hown : Oq w B v l) (hx : Os w B (.slice x.2.1 x.1.p.length x.2.2) x.1.p) (hxl : x.1.p.length ≤ 1000000) (hcell : w.heap[b]? = some (.cells (oxC x).toArray 34 (0, 0))) (hp : l.length + 1 ≤ 1000000) (hB : B ≤ w.heap.size) :
    ∃ v' w', (Builtin.append_ #[22, 22] 22 #[v, .slice (some ⟨b, 0, none⟩) 1 1]).run Tryz.prog w = .ok v' w' ∧ Oq w' B v' (l ++ [x]) ∧ w.grownBy w' v.ownBlock ∧ Below B w w' := by
  have h9 := Tryz.info34
  cases hi0 : Tryz.prog.info? 34 with
  | none => rw [hi0] at h9; cases h9
  | some i0 =>
    rw [hi0] at h9
    simp only [Option.map_some, Option.some.injEq, Prod.mk.injEq] at h9
    obtain ⟨v', w', hr, h2, h3, -⟩ := run_append_own (P := Tryz.prog) w B 22 22 34 i0 zero34 6 80 Tryz.underlying22 hi0 h9.1 h9.2.1 h9.2.2 rfl (by decide) v l.length (l.flatMap oxC) hown.row ⟨b, 0, none⟩ 1 1 (oxC x) (by simp [oxC]) (fun j u hj => by rw [add_lit, cell_of_row _ _ (0 + j) (oxC x).toArray 34 (0, 0) hcell, Nat.zero_add]; simpa using hj) (fun u hu => by unfold oxC at hu; simp only [List.mem_cons, List.not_mem_nil, or_false] at hu; rcases hu with rfl | rfl | rfl | rfl | rfl | rfl <;> rfl) (by unfold maxLen; omega) (by omega) hB
    have hne : ∀ y : Ox, Os w B (.slice y.2.1 y.1.p.length y.2.2) y.1.p → ∀ k, (Value.slice y.2.1 y.1.p.length y.2.2).ownBlock = some k → ¬ (v.ownBlock = some k) := fun y hy k hk hv => by
      rcases hown.row.2 with ⟨rfl, -⟩ | ⟨g, cap, cur, rfl, -, hg, -⟩
      · cases hv
      · rcases hy.2 with ⟨e, -⟩ | ⟨g2, cap2, cur2, e, -, hg2, -⟩
        · rw [e] at hk; cases hk
        · rw [e] at hk
          simp only [Value.ownBlock, Option.some.injEq] at hk hv
          subst hk
          subst hv
          rw [hg] at hg2
          simp at hg2
    refine ⟨v', w', hr, ⟨by rw [List.length_append, List.flatMap_append]; simpa using h2, fun y hy => ?_, fun y hy => by
      rcases List.mem_append.1 hy with hy | hy
      · exact hown.plen y hy
      · simp only [List.mem_cons, List.not_mem_nil, or_false] at hy
        subst hy; exact hxl⟩, h3, (Below.refl B w).grown h3 hB (fun k hk => (World.ownsRow.lt hown.row k hk).1)⟩
    rcases List.mem_append.1 hy with hy | hy
    · exact (hown.path y hy).only (Only.ofGrown h3) (hne y (hown.path y hy))
    · simp only [List.mem_cons, List.not_mem_nil, or_false] at hy
      subst hy
      exact hx.only (Only.ofGrown h3) (hne y hx)
end Go.Proofs.YtpepgoelnagoaaaGreatDoor
