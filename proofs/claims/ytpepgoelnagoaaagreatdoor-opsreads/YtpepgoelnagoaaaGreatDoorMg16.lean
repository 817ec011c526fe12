/-
  OPS: text 234, key 231, path 233, number 232; the source 'spoken' is one (SrcOk).
  OPS: Parse 34.
  OPS, forms: ops.Take 26.
  OPS: operations in a row of their own (Oq); the pieces of a text; ParseAll 36.
-/
import Derived.Test.YtpepgoelnagoaaaGreatDoorMg15
import Derived.Lib.ParseIntBTie
namespace Go.Proofs.YtpepgoelnagoaaaGreatDoor
open Go.RowKit Go.Shelf
set_option linter.unusedSimpArgs false
set_option linter.unusedVariables false
attribute [local go_sem] Oper.semAt_some

set_option maxHeartbeats 1000000 in
set_option maxRecDepth 100000 in
theorem text_st {w0 : World} {B M L S : Nat} {sg : ByteArray} {q : Pz} {W : World} (hi : SpIn w0 B M L S) (h : SpSt w0 B M L S sg q W) :
    Calls Tryz.prog 234 #[spV M L S] W fun e w' => e = .returned (.tuple #[.string (spT sg.data.toList q).1, .int .i64 (spT sg.data.toList q).2.1]) ∧ SpSt w0 B M L S sg (spT sg.data.toList q).2.2 w' ∧ Only (fun j => j = M ∨ j = L) W w' := by
  obtain ⟨W1, hW1⟩ : ∃ r, r = W.alloc (.cells #[spF M L S] 113) := ⟨_, rfl⟩
  have d1 : Below W.heap.size W W1 := by rw [hW1]; exact (Below.refl _ W).alloc (Nat.le_refl _) _
  have k := word_st hi (h.below hi (d1.mono h.le))
  have c0 : W1.cell? ⟨W.heap.size, 0, none⟩ = some (spF M L S) := by rw [hW1]; exact box113
  have hz := (nextP_sz (sg := sg.data.toList) h.pc.sz).1
  have hsp : spT sg.data.toList q = ((unP (unwordB (nextP sg.data.toList q).1.data.toList)).1, (unP (unwordB (nextP sg.data.toList q).1.data.toList)).2, (nextP sg.data.toList q).2.2) := rfl
  obtain ⟨X, hX⟩ : ∃ r, r = spT sg.data.toList q := ⟨_, rfl⟩
  rw [← hX] at hsp ⊢
  clear hX
  generalize nextP sg.data.toList q = R at k hsp hz ⊢
  obtain ⟨R1, R2, R3⟩ := R
  dsimp only at k hsp hz
  have k238 := fun W' => unword_any R1 W' hz
  rw [unE_is] at k238
  generalize unP (unwordB R1.data.toList) = U at k238 hsp
  obtain ⟨U1, U2⟩ := U
  dsimp only at k238 hsp
  subst hsp
  have HW := hide (And.intro hW1 (And.intro hi d1))
  clear h hi d1 hW1 hz
  go_enter Tryz.func234, Tryz.ntmps234
  go_upto_region 1 with fail
  rw [← HW.out.1]
  go_wp2_with (first
    | (go_at_call 235; refine k.mono ?_; rintro e w2 ⟨rfl, hp⟩; have H2 := hide (SpSt.ahead HW.out.2.1 HW.out.2.2 hp); clear hp)
    | (go_at_call 238; refine (k238 _).mono ?_; rintro e w3 ⟨rfl, hb⟩; have H3 := hide (SpSt.after HW.out.2.1 H2.out hb); clear hb))
  go_ret2
  exact ⟨rfl, H3.out⟩

set_option maxHeartbeats 1000000 in
set_option maxRecDepth 100000 in
theorem key_st {w0 : World} {B M L S : Nat} {sg : ByteArray} {q : Pz} {W : World} (hi : SpIn w0 B M L S) (h : SpSt w0 B M L S sg q W) :
    Calls Tryz.prog 231 #[spV M L S] W fun e w' => e = .returned (.tuple #[.string (spT sg.data.toList q).1, .int .i64 (spT sg.data.toList q).2.1]) ∧ SpSt w0 B M L S sg (spT sg.data.toList q).2.2 w' ∧ Only (fun j => j = M ∨ j = L) W w' := by
  obtain ⟨W1, hW1⟩ : ∃ r, r = W.alloc (.cells #[spF M L S] 113) := ⟨_, rfl⟩
  have d1 : Below W.heap.size W W1 := by rw [hW1]; exact (Below.refl _ W).alloc (Nat.le_refl _) _
  have k := text_st hi (h.below hi (d1.mono h.le))
  have c0 : W1.cell? ⟨W.heap.size, 0, none⟩ = some (spF M L S) := by rw [hW1]; exact box113
  generalize spT sg.data.toList q = X at k ⊢
  obtain ⟨U1, U2, R3⟩ := X
  dsimp only at k ⊢
  have HW := hide (And.intro hW1 (And.intro hi d1))
  clear h hi d1 hW1
  go_enter Tryz.func231, Tryz.ntmps231
  go_upto_region 1 with fail
  rw [← HW.out.1]
  go_wp2_with (go_at_call 234; refine k.mono ?_; rintro e w2 ⟨rfl, hp⟩; have H2 := hide (SpSt.ahead HW.out.2.1 HW.out.2.2 hp); clear hp)
  go_ret2
  exact ⟨rfl, H2.out⟩

theorem unword_len {l t : List UInt8} (h : unwordB l = some t) : t.length ≤ l.length := by
  have h1 := unword_sound h
  rw [← h1]
  unfold wordB
  split
  next h2 => subst h2; simp
  next h2 =>
    clear h1 h2 h
    induction t with
    | nil => simp
    | cons b r ih =>
      rw [List.flatMap_cons, List.length_append, List.length_cons]
      have : 0 < (wordByte b).length := List.length_pos_iff.2 (wordByte_ne b)
      omega
theorem unP_sz {R : ByteArray} (h : R.size ≤ 1000000) : (unP (unwordB R.data.toList)).1.size ≤ 1000000 := by
  cases hu : unwordB R.data.toList with
  | none => show (0 : Nat) ≤ _; omega
  | some t =>
    have := unword_len hu
    rw [← Lib.size_eq] at this
    show (⟨t.toArray⟩ : ByteArray).size ≤ _
    rw [arr_size]
    omega
theorem spP_len (sg : List UInt8) (q : Pz) : (spP sg q).1.length ≤ 1000000 := by
  show (splitP (unP (unwordB (nextP sg q).1.data.toList))).1.length ≤ _
  unfold splitP
  split
  · cases h : splitB (unP (unwordB (nextP sg q).1.data.toList)).1.data.toList with
    | none => simp
    | some L =>
      have := (path_sizes (split_sound h).1).1
      dsimp only
      omega
  · simp

set_option maxHeartbeats 2000000 in
set_option maxRecDepth 100000 in
theorem path_st {w0 : World} {B M L S : Nat} {sg : ByteArray} {q : Pz} {W : World} (hi : SpIn w0 B M L S) (h : SpSt w0 B M L S sg q W) :
    Calls Tryz.prog 233 #[spV M L S] W fun e w' => ∃ x, e = .returned (.tuple #[x, .int .i64 (spP sg.data.toList q).2.1]) ∧ Os w' W.heap.size x (spP sg.data.toList q).1 ∧ SpSt w0 B M L S sg (spP sg.data.toList q).2.2 w' ∧ Only (fun j => j = M ∨ j = L) W w' := by
  obtain ⟨W1, hW1⟩ : ∃ r, r = W.alloc (.cells #[spF M L S] 113) := ⟨_, rfl⟩
  have d1 : Below W.heap.size W W1 := by rw [hW1]; exact (Below.refl _ W).alloc (Nat.le_refl _) _
  have k := text_st hi (h.below hi (d1.mono h.le))
  have c0 : W1.cell? ⟨W.heap.size, 0, none⟩ = some (spF M L S) := by rw [hW1]; exact box113
  have hz := unP_sz (nextP_sz (sg := sg.data.toList) h.pc.sz).1
  have hsp : spP sg.data.toList q = ((splitP ((spT sg.data.toList q).1, (spT sg.data.toList q).2.1)).1, (splitP ((spT sg.data.toList q).1, (spT sg.data.toList q).2.1)).2, (spT sg.data.toList q).2.2) := rfl
  have hz' : (spT sg.data.toList q).1.size ≤ 1000000 := hz
  obtain ⟨X, hX⟩ : ∃ r, r = spP sg.data.toList q := ⟨_, rfl⟩
  rw [← hX] at hsp ⊢
  clear hX hz
  generalize spT sg.data.toList q = T at k hsp hz' ⊢
  obtain ⟨U1, U2, R3⟩ := T
  dsimp only at k hsp hz' ⊢
  have k237 := fun W' (hT : Tabs W') => split_any U1 W' hz' hT
  have HW := hide (And.intro hW1 (And.intro hi d1))
  clear h hi d1 hW1 hz'
  unfold splitP at hsp
  by_cases hu : U2 = 0
  · subst hu
    simp only [if_true] at hsp
    have HS := hide hsp
    clear hsp
    go_enter Tryz.func233, Tryz.ntmps233
    go_upto_region 1 with fail
    rw [← HW.out.1]
    go_upto_region 4 with (go_at_call 234; refine k.mono ?_; rintro e w2 ⟨rfl, hp⟩; have H2 := hide (SpSt.ahead HW.out.2.1 HW.out.2.2 hp); clear hp)
    have k237' := k237 w2 (H2.out.1.env HW.out.2.1).tabs
    have hsz : W.heap.size ≤ w2.heap.size := H2.out.2.size
    clear k237
    go_wp2_with fail
    refine k237'.mono ?_
    rintro e w3 ⟨(⟨hn, rfl⟩ | ⟨L', v, hn, rfl, ho⟩), hb⟩
    · have H3 := hide (SpSt.after HW.out.2.1 H2.out hb)
      have HN := hide hn
      clear hn hb k237'
      go_wp2
      go_ret2
      rw [HS.out, HN.out]
      exact ⟨_, rfl, Os.nil _ _, H3.out⟩
    · have H3 := hide (SpSt.after HW.out.2.1 H2.out hb)
      have HN := hide (And.intro hn (row_lift ho hsz : Os w3 W.heap.size v (keysOf L')))
      clear hn hb k237' ho
      go_wp2
      go_ret2
      rw [HS.out, HN.out.1]
      exact ⟨_, rfl, HN.out.2, H3.out⟩
  · rw [if_neg hu] at hsp
    subst hsp
    have hu1 : (U2 != 0) = true := by simpa using hu
    go_enter Tryz.func233, Tryz.ntmps233
    go_upto_region 1 with fail
    rw [← HW.out.1]
    go_wp2_with (go_at_call 234; refine k.mono ?_; rintro e w2 ⟨rfl, hp⟩; have H2 := hide (SpSt.ahead HW.out.2.1 HW.out.2.2 hp); clear hp)
    go_ret2
    exact ⟨_, rfl, Os.nil _ _, H2.out⟩

theorem parse_any (s : ByteArray) (w : World) (hs : s.size ≤ 1000000) (hk : (∃ v, Lib.parseIntB 64 s.data.toList = .ok v) ∨ EnvE w) : Calls Tryz.prog 80 #[.string s, .int .i64 10, .int .i64 64] w fun e w' => ∃ v z, e = .returned (.tuple #[.int .i64 v, z]) ∧ ((z = .nilIface ∧ Lib.parseIntB 64 s.data.toList = .ok v) ∨ ((∃ t p, z = .iface t p) ∧ ∀ v', Lib.parseIntB 64 s.data.toList ≠ .ok v')) ∧ Below w.heap.size w w' := by
  cases h : Lib.parseIntB 64 s.data.toList with
  | ok v =>
    refine (Tryz.strconv_ParseInt_10_at64_ok s (by omega) v h w).mono ?_
    rintro e w' ⟨rfl, h⟩
    refine ⟨v, _, rfl, .inl ⟨rfl, rfl⟩, ?_⟩
    rcases h with rfl | ⟨t, rfl⟩
    · exact Below.refl _ _
    · exact Lib.bytesWorld_below _ _ _
  | «syntax» =>
    have hE : EnvE w := hk.resolve_left (fun ⟨v, hv⟩ => by rw [h] at hv; cases hv)
    obtain ⟨t, p, hc⟩ := hE.syn
    refine (Tryz.strconv_ParseInt_10_at64_syntax s (by omega) h _ w hc (.inr ⟨t, p, rfl⟩)).mono ?_
    rintro e w' ⟨N, rfl, _, _, hb⟩
    exact ⟨_, _, rfl, .inr ⟨⟨_, _, rfl⟩, by simp⟩, hb⟩
  | range =>
    have hE : EnvE w := hk.resolve_left (fun ⟨v, hv⟩ => by rw [h] at hv; cases hv)
    obtain ⟨t, p, hc⟩ := hE.ran
    refine (Tryz.strconv_ParseInt_10_at64_range s (by omega) h _ w hc (.inr ⟨t, p, rfl⟩)).mono ?_
    rintro e w' ⟨N, rfl, _, _, hb⟩
    exact ⟨_, _, rfl, .inr ⟨⟨_, _, rfl⟩, by simp⟩, hb⟩
theorem str_eq {a b : ByteArray} (h : a.data.toList = b.data.toList) : a = b := Ki.ba_eq h
theorem str_ne' {a b : ByteArray} (h : a ≠ b) : (a.toList == b.toList) = false := by
  rw [ByteArray.toList_eq, ByteArray.toList_eq]
  simp only [beq_eq_false_iff_ne, ne_eq]
  exact fun e => h (str_eq e)
theorem ok_range {l : List UInt8} {v : Int} (h : Lib.parseIntB 64 l = .ok v) : I64 v := by
  have := Lib.parseIntB_bounds h
  have e : ((2 ^ (64 - 1) : Nat) : Int) = 9223372036854775808 := by decide
  rw [e] at this
  exact ⟨this.1, by omega⟩

set_option maxHeartbeats 4000000 in
set_option maxRecDepth 100000 in
theorem num_st {w0 : World} {B M L S : Nat} {sg : ByteArray} {q : Pz} {W : World} (hi : SpIn w0 B M L S) (h : SpSt w0 B M L S sg q W) (hk : (∃ v, Lib.parseIntB 64 (nextP sg.data.toList q).1.data.toList = .ok v) ∨ EnvE w0) :
    Calls Tryz.prog 232 #[spV M L S] W fun e w' => e = .returned (.tuple #[.int .i64 (spN sg.data.toList q).1, .int .i64 (spN sg.data.toList q).2.1]) ∧ SpSt w0 B M L S sg (spN sg.data.toList q).2.2 w' ∧ Only (fun j => j = M ∨ j = L) W w' := by
  obtain ⟨W1, hW1⟩ : ∃ r, r = W.alloc (.cells #[spF M L S] 113) := ⟨_, rfl⟩
  have d1 : Below W.heap.size W W1 := by rw [hW1]; exact (Below.refl _ W).alloc (Nat.le_refl _) _
  have k := word_st hi (h.below hi (d1.mono h.le))
  have c0 : W1.cell? ⟨W.heap.size, 0, none⟩ = some (spF M L S) := by rw [hW1]; exact box113
  have hz := (nextP_sz (sg := sg.data.toList) h.pc.sz).1
  have hsp : spN sg.data.toList q = ((numP (numW (nextP sg.data.toList q).1)).1, (numP (numW (nextP sg.data.toList q).1)).2, (nextP sg.data.toList q).2.2) := rfl
  obtain ⟨X, hX⟩ : ∃ r, r = spN sg.data.toList q := ⟨_, rfl⟩
  rw [← hX] at hsp ⊢
  clear hX
  generalize nextP sg.data.toList q = R at k hsp hz hk ⊢
  obtain ⟨R1, R2, R3⟩ := R
  dsimp only at k hsp hz hk
  have k80 := fun W' (hE : Below w0.heap.size w0 W') => parse_any R1 W' hz (hk.imp (fun h => h) (fun h => h.below hE))
  have k59 := fun (v : Int) (hv : I64 v) W' (hE : EnvO W') => format_any v W' hv hE.env
  have HW := hide (And.intro hW1 (And.intro hi d1))
  have HS := hide hsp
  clear h hi d1 hW1 hz hsp hk
  go_enter Tryz.func232, Tryz.ntmps232
  go_upto_region 1 with fail
  rw [← HW.out.1]
  go_upto_region 2 with (go_at_call 235; refine k.mono ?_; rintro e w2 ⟨rfl, hp⟩; have H2 := hide (SpSt.ahead HW.out.2.1 HW.out.2.2 hp); clear hp)
  have k80' := k80 w2 H2.out.1.old
  clear k80 k
  go_wp2_with fail
  refine k80'.mono ?_
  rintro e w3 ⟨v, z, rfl, hcase, hb⟩
  have H3 := hide (SpSt.after HW.out.2.1 H2.out hb)
  clear k80' hb
  rcases hcase with ⟨rfl, hok⟩ | ⟨⟨t, p, rfl⟩, hno⟩
  · have k59' := k59 v (ok_range hok) w3 (H3.out.1.env HW.out.2.1)
    clear k59
    by_cases hv : decL v = R1.data.toList
    · have he : (⟨(decL v).toArray⟩ : ByteArray) = R1 := str_eq (by simpa using hv)
      rw [he] at k59'
      have HN := hide (show numW R1 = some v by unfold numW; rw [hok]; exact if_pos hv)
      clear hok hv he
      have hee : (R1.toList == R1.toList) = true := by simp
      go_wp2_with (go_at_call 59; refine k59'.mono ?_; rintro e w4 ⟨rfl, hb⟩; have H4 := hide (SpSt.after HW.out.2.1 H3.out hb); clear hb)
      go_ret2
      rw [HS.out, HN.out]
      exact ⟨rfl, H4.out⟩
    · have he : (⟨(decL v).toArray⟩ : ByteArray) ≠ R1 := fun e => hv (by rw [← e])
      have hee := str_ne' he
      have HN := hide (show numW R1 = none by unfold numW; rw [hok]; exact if_neg hv)
      generalize (⟨(decL v).toArray⟩ : ByteArray) = Dv at k59' hee
      clear hok hv he
      go_wp2_with (go_at_call 59; refine k59'.mono ?_; rintro e w4 ⟨rfl, hb⟩; have H4 := hide (SpSt.after HW.out.2.1 H3.out hb); clear hb)
      go_ret2
      rw [HS.out, HN.out]
      exact ⟨rfl, H4.out⟩
  · have HN := hide (show numW R1 = none by
      unfold numW
      split
      next v' h => exact absurd h (hno v')
      next => rfl)
    clear hno k59
    go_wp2
    go_ret2
    rw [HS.out, HN.out]
    exact ⟨rfl, H3.out⟩
theorem spN_num (sg : List UInt8) (q : Pz) : I64 (spN sg q).1 := by
  show I64 (numP (numW (nextP sg q).1)).1
  have hz : I64 0 := ⟨by omega, by omega⟩
  cases h : numW (nextP sg q).1 with
  | none => exact hz
  | some v =>
    show I64 v
    unfold numW at h
    split at h
    next v' hok =>
      split at h
      · cases h; exact ok_range hok
      · cases h
    next => cases h

def spSrc (w0 : World) (B M L S : Nat) (sg : ByteArray) : Src Pz where
  T := 113
  v := spV M L S
  fd := 230
  fp := 233
  fk := 231
  fn := 232
  ft := 234
  D := fun j => j = M ∨ j = L
  B := B
  St := SpSt w0 B M L S sg
  pd := spD sg.data.toList
  pp := spP sg.data.toList
  pk := spT sg.data.toList
  pn := spN sg.data.toList
  pt := spT sg.data.toList
  okn := fun q => (∃ v, Lib.parseIntB 64 (nextP sg.data.toList q).1.data.toList = .ok v) ∨ EnvE w0
theorem enters230 : Enters Tryz.prog 230 := enters_of Tryz.func230 (by kernel_rfl) rfl
theorem enters231 : Enters Tryz.prog 231 := enters_of Tryz.func231 (by kernel_rfl) rfl
theorem enters232 : Enters Tryz.prog 232 := enters_of Tryz.func232 (by kernel_rfl) rfl
theorem enters233 : Enters Tryz.prog 233 := enters_of Tryz.func233 (by kernel_rfl) rfl
theorem enters234 : Enters Tryz.prog 234 := enters_of Tryz.func234 (by kernel_rfl) rfl
theorem spMd (M L S : Nat) (W : World) : (method 385 113 (spV M L S) "estuary/ops.do").run Tryz.prog W = .ok (230, spV M L S) W := by kernel_rfl
theorem spMp (M L S : Nat) (W : World) : (method 385 113 (spV M L S) "estuary/ops.path").run Tryz.prog W = .ok (233, spV M L S) W := by kernel_rfl
theorem spMk (M L S : Nat) (W : World) : (method 385 113 (spV M L S) "estuary/ops.key").run Tryz.prog W = .ok (231, spV M L S) W := by kernel_rfl
theorem spMn (M L S : Nat) (W : World) : (method 385 113 (spV M L S) "estuary/ops.number").run Tryz.prog W = .ok (232, spV M L S) W := by kernel_rfl
theorem spMt (M L S : Nat) (W : World) : (method 385 113 (spV M L S) "estuary/ops.text").run Tryz.prog W = .ok (234, spV M L S) W := by kernel_rfl
theorem spOk {w0 : World} {B M L S : Nat} (sg : ByteArray) (hi : SpIn w0 B M L S) : SrcOk (spSrc w0 B M L S sg) where
  lt := fun j hj => by have := hi.m; have := hi.l; rcases hj with rfl | rfl <;> (show _ < B; omega)
  le := fun q W h => SpSt.le h
  stable := fun q W W' h hb => SpSt.below hi h hb
  env := fun q W h => SpSt.env hi h
  qd := spMd M L S
  qp := spMp M L S
  qk := spMk M L S
  qn := spMn M L S
  qt := spMt M L S
  ed := enters230
  ep := enters233
  ek := enters231
  en := enters232
  et := enters234
  cd := fun q W h => do_st hi h
  cp := fun q W h => path_st hi h
  ck := fun q W h => key_st hi h
  cn := fun q W h hk => num_st hi h hk
  ct := fun q W h => text_st hi h
  num := fun q => spN_num _ q
  plen := fun q => spP_len _ q
end Go.Proofs.YtpepgoelnagoaaaGreatDoor
namespace Go.Proofs.YtpepgoelnagoaaaGreatDoor
open Go.RowKit Go.Shelf
set_option linter.unusedSimpArgs false
set_option linter.unusedVariables false
attribute [local go_sem] Oper.semAt_some

/-- What the words of a text say, without memory. -/
def spZ (sg : ByteArray) : Src Pz where
  T := 113
  v := .nilIface
  fd := 0
  fp := 0
  fk := 0
  fn := 0
  ft := 0
  D := fun _ => False
  B := 0
  St := fun _ _ => False
  pd := spD sg.data.toList
  pp := spP sg.data.toList
  pk := spT sg.data.toList
  pn := spN sg.data.toList
  pt := spT sg.data.toList
  okn := fun q => ∃ v, Lib.parseIntB 64 (nextP sg.data.toList q).1.data.toList = .ok v
abbrev blankS : ByteArray := ⟨#[32]⟩
def parseS (s : ByteArray) : Od × Int :=
  if (nextP [32] (rdO (spZ blankS) ⟨s, true⟩).2.2).2.1 = true then (odZ, 4) else readS (spZ blankS) ⟨s, true⟩
/-- Is the number's word, where there is one, one that is read without an error? -/
def okPI : List UInt8 → Bool := fun l => match Lib.parseIntB 64 l with | .ok _ => true | _ => false
theorem okPI_ex {l : List UInt8} (h : okPI l = true) : ∃ v, Lib.parseIntB 64 l = .ok v := by
  unfold okPI at h
  split at h
  next v hv => exact ⟨v, hv⟩
  next => cases h
def numOk (s : ByteArray) : Bool := if (rd3 (spZ blankS) ⟨s, true⟩).1.1 = 1 ∧ (rd3 (spZ blankS) ⟨s, true⟩).2.1 = 0 then okPI (nextP [32] (rd3 (spZ blankS) ⟨s, true⟩).2.2).1.data.toList else true
theorem read_spZ (w0 : World) (B M L S : Nat) (sg : ByteArray) (q : Pz) : readS (spSrc w0 B M L S sg) q = readS (spZ sg) q ∧ rdO (spSrc w0 B M L S sg) q = rdO (spZ sg) q := ⟨rfl, rfl⟩

set_option maxHeartbeats 4000000 in
set_option maxRecDepth 100000 in
theorem parse34_any (s : ByteArray) (w : World) (hs : s.size ≤ 1000000) (hE : EnvO w) (hok : numOk s = true ∨ EnvE w) : Calls Tryz.prog 34 #[.string s] w fun e w' => ∃ pa pc, e = .returned (.tuple #[odv pa (parseS s).1.p.length pc (parseS s).1, .int .i64 (parseS s).2]) ∧ Os w' w.heap.size (.slice pa (parseS s).1.p.length pc) (parseS s).1.p ∧ Below w.heap.size w w' := by
  have hmi : ∀ (v : Value) (W : World), (Instr.makeInterface 113 (.agg #[v])).run Tryz.prog W = .ok (.iface 113 (.agg #[v])) W := fun _ _ => by kernel_rfl
  obtain ⟨w1, hw1⟩ : ∃ r, r = w.alloc (.cells (oc6 (.slice none 0 0) 0 ⟨#[]⟩ 0 0 ⟨#[]⟩) 34) := ⟨_, rfl⟩
  have d1 : Below w.heap.size w w1 := by rw [hw1]; exact (Below.refl _ w).alloc (Nat.le_refl _) _
  have m1 : w1.heap[w.heap.size]? = some (.cells (oc6 (.slice none 0 0) 0 ⟨#[]⟩ 0 0 ⟨#[]⟩) 34 (0, 0)) := by rw [hw1]; exact heap_alloc_new _ _
  have s1 : w1.heap.size = w.heap.size + 1 := by rw [hw1]; simp
  have k76 := pieces_any s blankS w1 hs
  have hP : Hid (parseS s = if (nextP [32] (rdO (spZ blankS) ⟨s, true⟩).2.2).2.1 = true then (odZ, 4) else readS (spZ blankS) ⟨s, true⟩) := hide rfl
  obtain ⟨X, hX⟩ : ∃ r, r = parseS s := ⟨_, rfl⟩
  rw [← hX] at hP ⊢
  have HW := hide (And.intro hw1 (And.intro d1 (And.intro m1 (And.intro s1 (hE.below d1)))))
  have HOK := hide (show numOk s = true ∨ EnvE w1 from hok.imp (fun h => h) (fun h => h.below d1))
  clear hX hw1 d1 m1 s1 hE hs hok
  go_enter Tryz.func34, Tryz.ntmps34
  go_upto_region 1 with fail
  rw [← HW.out.1]
  go_upto_region 2 with (go_at_call 76; refine k76.mono ?_; rintro e w2 ⟨M, L, S, rfl, hpc, gM, gL, gS, hb⟩; have H2 := hide (And.intro hpc (And.intro gM (And.intro gL (And.intro gS hb)))); clear hpc gM gL gS hb k76)
  have hi : SpIn w1 w2.heap.size M L S := by
    obtain ⟨hpc, gM, gL, gS, hb⟩ := H2.out
    exact ⟨HW.out.2.2.2.2, ⟨gM, (Array.getElem?_eq_some_iff.1 hpc.m).1⟩, ⟨gL, (Array.getElem?_eq_some_iff.1 hpc.l).1⟩, ⟨gS, (Array.getElem?_eq_some_iff.1 hpc.s).1⟩⟩
  have hst : SpSt w1 w2.heap.size M L S blankS ⟨s, true⟩ w2 := ⟨H2.out.1, H2.out.2.2.2.2, Nat.le_refl _⟩
  have k70 := read_any (spOk blankS hi) (q := ⟨s, true⟩) (w := w2) hst (fun h1 h2 => by
    rcases HOK.out with h | h
    · refine .inl (okPI_ex ?_)
      unfold numOk at h
      rw [if_pos ⟨h1, h2⟩] at h
      exact h
    · exact .inr h)
  rw [(read_spZ w1 w2.heap.size M L S blankS ⟨s, true⟩).1, (read_spZ w1 w2.heap.size M L S blankS ⟨s, true⟩).2] at k70
  obtain ⟨R, hR⟩ : ∃ r, r = readS (spZ blankS) ⟨s, true⟩ := ⟨_, rfl⟩
  obtain ⟨Q, hQ⟩ : ∃ r, r = (rdO (spZ blankS) ⟨s, true⟩).2.2 := ⟨_, rfl⟩
  rw [← hR, ← hQ] at hP
  rw [← hR, ← hQ] at k70
  have HI := hide hi
  clear hi hst hR hQ
  have hT : (spSrc w1 w2.heap.size M L S blankS).T = 113 := rfl
  have hV : (spSrc w1 w2.heap.size M L S blankS).v = spV M L S := rfl
  rw [hT, hV] at k70
  clear hT hV
  obtain ⟨o, er⟩ := R
  dsimp only at k70
  obtain ⟨p, k, ks, d, n, t⟩ := o
  dsimp only at k70
  go_upto_region 3 with (go_at_call 70; refine k70.mono ?_; rintro e w3 ⟨pa, pc, rfl, hos, hst, ho⟩; have H3 := hide (And.intro hos (And.intro hst ho)); clear hos hst ho k70)
  obtain ⟨w4, hw4⟩ : ∃ r, r = w3.alloc (.cells (oc6 (.slice pa p.length pc) k ks d n t) 34) := ⟨_, rfl⟩
  rw [← hw4]
  have d4 : Below w3.heap.size w3 w4 := by rw [hw4]; exact (Below.refl _ _).alloc (Nat.le_refl _) _
  have m4 : w4.heap[w3.heap.size]? = some (.cells (oc6 (.slice pa p.length pc) k ks d n t) 34 (0, 0)) := by rw [hw4]; exact heap_alloc_new _ _
  have st4 : SpSt w1 w2.heap.size M L S blankS Q w4 := SpSt.below HI.out H3.out.2.1 (d4.mono H3.out.2.1.le)
  have k117 := next_any st4.pc (st4.env HI.out).max
  have hB : blankS.data.toList = [32] := rfl
  rw [hB] at k117
  obtain ⟨N, hN⟩ : ∃ r, r = nextP [32] Q := ⟨_, rfl⟩
  rw [← hN] at k117 hP
  have hfin : ∀ w5, Only (fun j => j = M ∨ j = L) w4 w5 → w5.heap[w.heap.size]? = some (.cells (oc6 (.slice none 0 0) 0 ⟨#[]⟩ 0 0 ⟨#[]⟩) 34 (0, 0)) ∧ w5.heap[w3.heap.size]? = some (.cells (oc6 (.slice pa p.length pc) k ks d n t) 34 (0, 0)) ∧ Below w.heap.size w w5 ∧ Os w5 w2.heap.size (.slice pa p.length pc) p ∧ w.heap.size < w2.heap.size := fun w5 h5 => by
    obtain ⟨-, d1, m1, s1, -⟩ := HW.out
    obtain ⟨hpc, gM, gL, gS, hb⟩ := H2.out
    obtain ⟨hos, -, ho⟩ := H3.out
    have hM := HI.out.m
    have hL := HI.out.l
    have z2 := hb.size
    have z3 := ho.size
    have a2 := (hb.block _ (by omega)).trans m1
    have a3 := (ho.block _ (by omega) (by show ¬ (w.heap.size = M ∨ w.heap.size = L); omega)).trans a2
    have a4 := (d4.block _ (by omega)).trans a3
    have z4 := d4.size
    refine ⟨(h5.block _ (by omega) (by omega)).trans a4, (h5.block _ (Array.getElem?_eq_some_iff.1 m4).1 (by omega)).trans m4, ?_, ?_, by omega⟩
    · exact (((d1.trans (hb.mono (by omega))).trans (ho.below (by omega) (fun j hj => by have : j = M ∨ j = L := hj; omega))).trans (d4.mono (by omega))).trans (h5.below (by omega) (fun j hj => by omega))
    · exact (hos.below d4).only h5 (fun j hj hd => by have := (World.ownsRow.lt hos j hj).1; omega)
  obtain ⟨⟨x0, x1, x2, x3, x4, x5⟩, f0, f1, f2, f3, f4, f5⟩ := blk6 m4
  have HF := hide hfin
  clear hfin m4 st4 d4 hw4 HI hB H2 H3 HW hN
  cases hm : N.2.1
  · rw [hm] at k117 hP
    rw [if_neg (by simp)] at hP
    have HP := hide hP
    clear hP hm x0 x1 x2 x3 x4 x5 f0 f1 f2 f3 f4 f5
    go_wp2_with (go_at_call 117; refine k117.mono ?_; rintro e w5 ⟨rfl, -, ho5⟩; have H5 := HF.out w5 ho5; clear ho5 HF k117; obtain ⟨⟨x0, x1, x2, x3, x4, x5⟩, f0, f1, f2, f3, f4, f5⟩ := blk6 H5.2.1; obtain ⟨⟨y0, y1, y2, y3, y4, y5⟩, g0, g1, g2, g3, g4, g5⟩ := blk6 H5.1; have H5 := hide H5)
    refine ret_row_tmp w.heap.size (oc6 (.slice pa p.length pc) k ks d n t).toList rfl rfl rfl Tryz.underlying34 rfl Tryz.info34z (set6 H5.out.1) rfl ?_
    rw [HP.out]
    exact ⟨pa, pc, rfl, row_lift (H5.out.2.2.2.1.only only6 (fun j hj hd => by have := (World.ownsRow.lt H5.out.2.2.2.1 j hj).1; have := H5.out.2.2.2.2; omega)) (by have := H5.out.2.2.2.2; omega), H5.out.2.2.1.trans (only6.below H5.out.2.2.1.size (fun j hj => by omega))⟩
  · rw [hm] at k117 hP
    rw [if_pos rfl] at hP
    have HP := hide hP
    clear hP hm x0 x1 x2 x3 x4 x5 f0 f1 f2 f3 f4 f5
    go_wp2_with (go_at_call 117; refine k117.mono ?_; rintro e w5 ⟨rfl, -, ho5⟩; have H5 := HF.out w5 ho5; clear ho5 HF k117; obtain ⟨⟨y0, y1, y2, y3, y4, y5⟩, g0, g1, g2, g3, g4, g5⟩ := blk6 H5.1; have H5 := hide H5)
    refine ret_row_tmp w.heap.size (oc6 (.slice none 0 0) 0 ⟨#[]⟩ 0 0 ⟨#[]⟩).toList rfl rfl rfl Tryz.underlying34 rfl Tryz.info34z (set6 H5.out.1) rfl ?_
    rw [HP.out]
    exact ⟨none, 0, rfl, Os.nil _ _, H5.out.2.2.1.trans (only6.below H5.out.2.2.1.size (fun j hj => by omega))⟩
end Go.Proofs.YtpepgoelnagoaaaGreatDoor
namespace Go.Proofs.YtpepgoelnagoaaaGreatDoor
open Go.RowKit Go.Shelf
variable {K : Nat → Prop}
set_option linter.unusedSimpArgs false
set_option linter.unusedVariables false
attribute [local go_sem] Oper.semAt_some

abbrev aheadK (K : Nat → Prop) (S R : Nat) : Nat → Prop := fun b => (b < S ∧ K b) ∧ b ≠ R
theorem Rdr.copy {w w2 : World} {R S N cap : Nat} {ao : Option Addr} {l : List Int} (h : Rdr K 77 w R S l) (c0 : w.cell? ⟨R, 0, none⟩ = some (.slice ao l.length cap)) (hb : Below w.heap.size w w2) (hS : S ≤ w.heap.size) (hN : w.heap.size ≤ N)
    (hh : w2.heap[N]? = some (.cells #[.slice ao l.length cap, .bool true] 77 (0, 0))) : Rdr (aheadK K S R) 77 w2 N (N + 1) l := by
  obtain ⟨ao', cap', a1, a2, a3, a4, a5, a6, a7, a8⟩ := h
  obtain ⟨d0, _⟩ := cell_blk a1
  rw [d0] at c0
  simp only [Option.some.injEq, Value.slice.injEq, true_and] at c0
  obtain ⟨rfl, rfl⟩ := c0
  exact ⟨ao', cap', hh, a2.below hb, a3, a4, a5, fun a ha => ⟨⟨by have := (a6 a ha).1.1; omega, a6 a ha⟩, by have := (a6 a ha).1.1; omega⟩, by omega, a8⟩
theorem Rdr.back {w : World} {R S N cap : Nat} {ao : Option Addr} {l : List Int} {x y : Value} (h : Rdr (aheadK K S R) 77 w N (N + 1) l) (c0 : w.cell? ⟨N, 0, none⟩ = some (.slice ao l.length cap)) (hR : R < S)
    (hh : w.heap[R]? = some (.cells #[x, y] 77 (0, 0))) : Rdr K 77 ((w.setCell ⟨R, 0, none⟩ (.slice ao l.length cap)).setCell ⟨R, 1, none⟩ (.bool true)) R S l := by
  obtain ⟨ao', cap', a1, a2, a3, a4, a5, a6, a7, a8⟩ := h
  obtain ⟨d0, _⟩ := cell_blk a1
  rw [d0] at c0
  simp only [Option.some.injEq, Value.slice.injEq, true_and] at c0
  obtain ⟨rfl, rfl⟩ := c0
  have e1 := heap_setCell_same w R 0 _ 77 (.slice ao' l.length cap') hh
  have e2 := heap_setCell_same _ R 1 _ 77 (.bool true) e1
  refine ⟨ao', cap', by rw [e2]; simp, ?_, a3, a4, a5, fun a ha => (a6 a ha).1.2, hR, a8⟩
  exact (a2.grown (grown_trans (grown_set w R 0 _) (grown_set _ R 1 _)) (fun a ha => by have := (a6 a ha).1.2.2; simpa using this))

/-- What the forms' source tells, without its memory. -/
def fmZ : Src (List Int) where
  T := 102
  v := .nilIface
  fd := 0
  fp := 0
  fk := 0
  fn := 0
  ft := 0
  D := fun _ => False
  B := 0
  St := fun _ _ => False
  pd := fmD
  pp := rpath
  pk := rtext 64
  pn := fmN
  pt := rtext 256
  okn := fun _ => True
theorem read_fmZ (w0 : World) (R : Nat) (q : List Int) : readS (fmS K w0 R) q = readS fmZ q ∧ rdO (fmS K w0 R) q = rdO fmZ q := ⟨rfl, rfl⟩
/-- What taking an operation answers. -/
def ropF (q : List Int) : Od × Int × List Int := ((readS fmZ q).1, (readS fmZ q).2, if (readS fmZ q).2 = 0 then (rdO fmZ q).2.2 else q)

set_option maxHeartbeats 4000000 in
set_option maxRecDepth 100000 in
theorem take26_any (R S : Nat) (q : List Int) (w : World) (hR : Rdr K 77 w R S q) (hq : q.length ≤ 140737488355328) (hS : S ≤ w.heap.size) (hE : EnvO w) :
    Calls Tryz.prog 26 #[.pointer (some ⟨R, 0, none⟩)] w fun e w' => ∃ pa pc, e = .returned (.tuple #[odv pa (ropF q).1.p.length pc (ropF q).1, .int .i64 (ropF q).2.1]) ∧ Os w' w.heap.size (.slice pa (ropF q).1.p.length pc) (ropF q).1.p ∧ Rdr K 77 w' R S (ropF q).2.2 ∧ w.grownBy w' (some R) ∧ (ropF q).2.2.length ≤ 140737488355328 := by
  have hmi : ∀ (v : Value) (W : World), (Instr.makeInterface 102 (.agg #[v])).run Tryz.prog W = .ok (.iface 102 (.agg #[v])) W := fun _ _ => by kernel_rfl
  obtain ⟨ao, cap, c0, c1, f0, f1, hsz, hl⟩ := hR.cells
  obtain ⟨w1, hw1⟩ : ∃ r, r = w.alloc (.cells (oc6 (.slice none 0 0) 0 ⟨#[]⟩ 0 0 ⟨#[]⟩) 34) := ⟨_, rfl⟩
  have d1 : Below w.heap.size w w1 := by rw [hw1]; exact (Below.refl _ w).alloc (Nat.le_refl _) _
  have m1 : w1.heap[w.heap.size]? = some (.cells (oc6 (.slice none 0 0) 0 ⟨#[]⟩ 0 0 ⟨#[]⟩) 34 (0, 0)) := by rw [hw1]; exact heap_alloc_new _ _
  have s1 : w1.heap.size = w.heap.size + 1 := by rw [hw1]; simp
  obtain ⟨w2, hw2⟩ : ∃ r, r = w1.alloc (.cells #[.slice ao q.length cap, .bool true] 77) := ⟨_, rfl⟩
  have d2 : Below w1.heap.size w1 w2 := by rw [hw2]; exact (Below.refl _ w1).alloc (Nat.le_refl _) _
  have m2 : w2.heap[w1.heap.size]? = some (.cells #[.slice ao q.length cap, .bool true] 77 (0, 0)) := by rw [hw2]; exact heap_alloc_new _ _
  have s2 : w2.heap.size = w.heap.size + 2 := by rw [hw2]; simp [s1]
  have hi : FmIn w1 w1.heap.size := ⟨hE.below d1, Nat.le_refl _⟩
  have hst : FmSt (aheadK K S R) w1 w1.heap.size q w2 := ⟨hR.copy c0 (d1.trans (d2.mono (by omega))) hS (by omega) m2, d2, by omega, hq⟩
  have k70 := read_any (fmOk (K := aheadK K S R) hi) (q := q) (w := w2) hst (fun _ _ => trivial)
  rw [(read_fmZ w1 w1.heap.size q).1, (read_fmZ w1 w1.heap.size q).2] at k70
  have hrop : ropF q = ((readS fmZ q).1, (readS fmZ q).2, if (readS fmZ q).2 = 0 then (rdO fmZ q).2.2 else q) := rfl
  obtain ⟨X, hX⟩ : ∃ r, r = ropF q := ⟨_, rfl⟩
  rw [← hX] at hrop ⊢
  generalize readS fmZ q = Z at k70 hrop
  obtain ⟨Q, hQ⟩ : ∃ r, r = (rdO fmZ q).2.2 := ⟨_, rfl⟩
  rw [← hQ] at hrop
  have k70 : Calls Tryz.prog 70 #[.iface 102 (fmV w1.heap.size)] w2 fun e w' => ∃ pa pc, e = .returned (.tuple #[odv pa Z.1.p.length pc Z.1, .int .i64 Z.2]) ∧ Os w' w2.heap.size (.slice pa Z.1.p.length pc) Z.1.p ∧ FmSt (aheadK K S R) w1 w1.heap.size Q w' ∧ Only (fun j => j = w1.heap.size) w2 w' := by rw [hQ]; exact k70
  have k69 := end_any R S q w1 (hR.below (d1.mono hS))
  have hen : (endE q == 1) = false := by unfold endE; split <;> rfl
  generalize endE q = en at k69 hen
  have mR : w.heap[R]? = some (.cells #[.slice ao q.length cap, .bool true] 77 (0, 0)) := by
    obtain ⟨ao', cap', a1, -⟩ := hR
    obtain ⟨d0, _⟩ := cell_blk a1
    rw [d0] at c0
    simp only [Option.some.injEq, Value.slice.injEq, true_and] at c0
    obtain ⟨rfl, rfl⟩ := c0
    exact a1
  have hRS : R < S := by obtain ⟨_, _, _, _, _, _, _, _, h, _⟩ := hR; exact h
  have mR1 := (d1.block R hsz).trans mR
  obtain ⟨r0, r1, -, -⟩ := cell_blk mR1
  obtain ⟨o, er⟩ := Z
  dsimp only at k70 hrop
  obtain ⟨p, k, ks, d, n, t⟩ := o
  dsimp only at k70 hrop
  have HE := hide hE
  have HW := hide (And.intro hw1 (And.intro hw2 (And.intro d1 (And.intro m1 (And.intro s1 (And.intro d2 (And.intro s2 (And.intro mR1 (And.intro hRS (And.intro hS (And.intro hR (And.intro hq hrop))))))))))))
  clear hX hQ hst hi d1 d2 m1 m2 s1 s2 hw1 hw2 hS hE hq mR mR1 hRS hR c0 c1 f0 f1 hrop
  go_enter Tryz.func26, Tryz.ntmps26
  go_upto_region 1 with fail
  rw [← HW.out.1]
  go_upto_region 3 with (go_at_call 69; refine k69.mono ?_; rintro e wm ⟨rfl, hm⟩; have hm := hm.symm; subst hm)
  go_upto_region 4 with fail
  rw [← HW.out.2.1]
  go_upto_region 5 with (go_at_call 70; refine k70.mono ?_; rintro e w3 ⟨pa, pc, rfl, hos, hst, ho⟩; have H3 := hide (And.intro hos (And.intro hst ho)); clear hos hst ho k70)
  obtain ⟨w4, hw4⟩ : ∃ r, r = w3.alloc (.cells (oc6 (.slice pa p.length pc) k ks d n t) 34) := ⟨_, rfl⟩
  rw [← hw4]
  have d4 : Below w3.heap.size w3 w4 := by rw [hw4]; exact (Below.refl _ _).alloc (Nat.le_refl _) _
  have m4 : w4.heap[w3.heap.size]? = some (.cells (oc6 (.slice pa p.length pc) k ks d n t) 34 (0, 0)) := by rw [hw4]; exact heap_alloc_new _ _
  have s4 : w4.heap.size = w3.heap.size + 1 := by rw [hw4]; simp
  have hF : w4.heap[w.heap.size]? = some (.cells (oc6 (.slice none 0 0) 0 ⟨#[]⟩ 0 0 ⟨#[]⟩) 34 (0, 0)) ∧ w4.heap[R]? = some (.cells #[.slice ao q.length cap, .bool true] 77 (0, 0)) ∧ Below w.heap.size w w4 ∧ FmSt (aheadK K S R) wm wm.heap.size Q w4 ∧ Os w4 w2.heap.size (.slice pa p.length pc) p ∧ w.heap.size + 2 ≤ w3.heap.size := by
    obtain ⟨-, -, d1, m1, s1, d2, s2, mR1, hRS, hS, -, -, -⟩ := HW.out
    obtain ⟨hos, hst, ho⟩ := H3.out
    have z := ho.size
    have hi : FmIn wm wm.heap.size := ⟨EnvO.below HE.out d1, Nat.le_refl _⟩
    have e1 : w3.heap[w.heap.size]? = w2.heap[w.heap.size]? := ho.block _ (by omega) (by omega)
    have e2 : w3.heap[R]? = w2.heap[R]? := ho.block _ (by omega) (by omega)
    refine ⟨(d4.block _ (by omega)).trans (e1.trans ((d2.block _ (by omega)).trans m1)), (d4.block _ (by omega)).trans (e2.trans ((d2.block _ (by omega)).trans mR1)), ((d1.trans (d2.mono (by omega))).trans (ho.below (by omega) (fun j hj => by have : j = wm.heap.size := hj; omega))).trans (d4.mono (by omega)), hst.below hi (d4.mono (by omega)), hos.below d4, by omega⟩
  obtain ⟨⟨x0, x1, x2, x3, x4, x5⟩, -, -, -, -, -, -⟩ := blk6 m4
  have HF := hide (And.intro hF (And.intro m4 s4))
  clear hF m4 s4 d4 hw4
  by_cases her : er = 0
  · subst her
    have hX : X = (⟨p, k, ks, d, n, t⟩, 0, Q) := by have := HW.out.2.2.2.2.2.2.2.2.2.2.2.2; simpa using this
    subst hX
    obtain ⟨ao4, cap4, y0, y1, -, -, -, -⟩ := HF.out.1.2.2.2.1.rd.cells
    obtain ⟨r40, r41, g0, g1⟩ := cell_blk HF.out.1.2.1
    clear x0 x1 x2 x3 x4 x5
    go_upto_region 7 with fail
    obtain ⟨w5, hw5⟩ : ∃ r, r = (w4.setCell ⟨R, 0, none⟩ (.slice ao4 Q.length cap4)).setCell ⟨R, 1, none⟩ (.bool true) := ⟨_, rfl⟩
    rw [← hw5]
    have hb5 : Rdr K 77 w5 R S Q := by rw [hw5]; exact Rdr.back HF.out.1.2.2.2.1.rd y0 HW.out.2.2.2.2.2.2.2.2.1 HF.out.1.2.1
    have ho5 : Only (fun j => j = R) w4 w5 := by rw [hw5]; exact only_grown (grown_trans (grown_set w4 R 0 _) (grown_set _ R 1 _))
    have hRw : R < w.heap.size := by have := HW.out.2.2.2.2.2.2.2.2; omega
    have m5 := (ho5.block _ (by have := HF.out.2.2; omega) (by have := HF.out.1.2.2.2.2.2; omega)).trans HF.out.2.1
    have m5z := (ho5.block _ (by have := HF.out.2.2; have := HF.out.1.2.2.2.2.2; omega) (by omega)).trans HF.out.1.1
    obtain ⟨⟨x0, x1, x2, x3, x4, x5⟩, -, -, -, -, -, -⟩ := blk6 m5
    obtain ⟨⟨z0, z1, z2, z3, z4, z5⟩, h0, h1, h2, h3, h4, h5⟩ := blk6 m5z
    have H5 := hide (And.intro hb5 (And.intro ho5 (And.intro m5z hRw)))
    clear hb5 ho5 m5 m5z hw5 hRw y0 y1 r40 r41 g0 g1
    go_wp2
    refine ret_row_tmp w.heap.size (oc6 (.slice pa p.length pc) k ks d n t).toList rfl rfl rfl Tryz.underlying34 rfl Tryz.info34z (set6 H5.out.2.2.1) rfl ?_
    obtain ⟨⟨_, _, b4, st4, hos4, z3⟩, _, s4⟩ := HF.out
    obtain ⟨hb5, ho5, -, hRw⟩ := H5.out
    have z5 := ho5.size
    have s2 := HW.out.2.2.2.2.2.2.1
    have hS := HW.out.2.2.2.2.2.2.2.2.2.1
    refine ⟨pa, pc, rfl, ?_, ?_, ?_, st4.len⟩
    · exact row_lift ((hos4.only ho5 (fun j hj hd => by have := (World.ownsRow.lt hos4 j hj).1; omega)).only only6 (fun j hj hd => by have := (World.ownsRow.lt hos4 j hj).1; omega)) (by omega)
    · exact hb5.below (only6.below (by omega) (fun j hj => by omega))
    · exact grown_only ((((Only.ofBelow b4).mono (fun _ _ e => e.elim)).trans ho5 (fun _ _ e => e)).trans only6 (fun j hj e => by omega))
  · have her1 : (er == 0) = false := by simpa using her
    have hX : X = (⟨p, k, ks, d, n, t⟩, er, q) := by have := HW.out.2.2.2.2.2.2.2.2.2.2.2.2; simpa [her] using this
    subst hX
    obtain ⟨⟨z0, z1, z2, z3, z4, z5⟩, h0, h1, h2, h3, h4, h5⟩ := blk6 HF.out.1.1
    go_wp2
    refine ret_row_tmp w.heap.size (oc6 (.slice pa p.length pc) k ks d n t).toList rfl rfl rfl Tryz.underlying34 rfl Tryz.info34z (set6 HF.out.1.1) rfl ?_
    obtain ⟨⟨_, mR4, b4, st4, hos4, z3⟩, _, s4⟩ := HF.out
    have s2 := HW.out.2.2.2.2.2.2.1
    have hS := HW.out.2.2.2.2.2.2.2.2.2.1
    have hR := HW.out.2.2.2.2.2.2.2.2.2.2.1
    have hq := HW.out.2.2.2.2.2.2.2.2.2.2.2.1
    refine ⟨pa, pc, rfl, ?_, ?_, ?_, hq⟩
    · exact row_lift (hos4.only only6 (fun j hj hd => by have := (World.ownsRow.lt hos4 j hj).1; omega)) (by omega)
    · exact (hR.below (b4.mono hS)).below (only6.below (by omega) (fun j hj => by omega))
    · exact grown_only (((Only.ofBelow b4).mono (fun _ _ e => e.elim)).trans only6 (fun j hj e => by omega))
end Go.Proofs.YtpepgoelnagoaaaGreatDoor
namespace Go.Proofs.YtpepgoelnagoaaaGreatDoor
open Go.RowKit Go.Shelf
set_option linter.unusedSimpArgs false
set_option linter.unusedVariables false
attribute [local go_sem] Oper.semAt_some

/-- An operation, and where its path lies. -/
abbrev Ox := Od × Option Addr × Nat
def oxC (x : Ox) : List Value := [.slice x.2.1 x.1.p.length x.2.2, .int .i64 x.1.k, .string x.1.s, .int .i64 x.1.d, .int .i64 x.1.n, .string x.1.t]
/-- The slice value v owns these operations, and their paths. -/
structure Oq (w : World) (B : Nat) (v : Value) (l : List Ox) : Prop where
  row : w.ownsRow B 34 6 v l.length (l.flatMap oxC)
  path : ∀ x ∈ l, Os w B (.slice x.2.1 x.1.p.length x.2.2) x.1.p
  plen : ∀ x ∈ l, x.1.p.length ≤ 1000000
def zero34 : Value := .agg #[.slice none 0 0, .int .i64 0, .string ⟨#[]⟩, .int .i64 0, .int .i64 0, .string ⟨#[]⟩]
theorem Tryz.info34 : (Tryz.prog.info? 34).map (fun i => (i.zero, i.size, i.bytes)) = some (some zero34, 6, 80) := by kernel_rfl
theorem Oq.nil (w : World) (B : Nat) : Oq w B (.slice none 0 0) [] := ⟨World.ownsRow_nil _ _ _ _, fun x h => (by cases h), fun x h => (by cases h)⟩
theorem Oq.only {w w' : World} {B : Nat} {v : Value} {l : List Ox} {D : Nat → Prop} (h : Oq w B v l) (ho : Only D w w') (hD : ∀ k, B ≤ k → ¬ D k) : Oq w' B v l :=
  ⟨ho.row h.row (fun k hk => hD k (World.ownsRow.lt h.row k hk).1), fun x hx => (h.path x hx).only ho (fun k hk => hD k (World.ownsRow.lt (h.path x hx) k hk).1), h.plen⟩
theorem Oq.below {w w' : World} {B : Nat} {v : Value} {l : List Ox} (h : Oq w B v l) (hb : Below w.heap.size w w') : Oq w' B v l := h.only (Only.ofBelow hb) (fun _ _ d => d)
theorem row_lift6 {w : World} {B B' e k n : Nat} {v : Value} {xs : List Value} (h : w.ownsRow B e k v n xs) (hB : B' ≤ B) : w.ownsRow B' e k v n xs := by
  rcases h with ⟨h1, h2 | ⟨g, cap, cur, e1, hb, r⟩⟩
  · exact ⟨h1, .inl h2⟩
  · exact ⟨h1, .inr ⟨g, cap, cur, e1, Nat.le_trans hB hb, r⟩⟩
theorem Oq.lift {w : World} {B B' : Nat} {v : Value} {l : List Ox} (h : Oq w B v l) (hB : B' ≤ B) : Oq w B' v l := ⟨row_lift6 h.row hB, fun x hx => row_lift6 (h.path x hx) hB, h.plen⟩
theorem oxC_get (l : List Ox) (i j : Nat) (x : Ox) (hx : l[i]? = some x) (hj : j < 6) : (l.flatMap oxC)[i * 6 + j]? = (oxC x)[j]? := by
  induction l generalizing i with
  | nil => simp at hx
  | cons y r ih =>
    rw [List.flatMap_cons]
    cases i with
    | zero =>
      simp only [List.getElem?_cons_zero, Option.some.injEq] at hx
      subst hx
      rw [Nat.zero_mul, Nat.zero_add, List.getElem?_append_left (by simp [oxC]; omega)]
    | succ i =>
      rw [List.getElem?_append_right (by simp [oxC]; omega)]
      have : (i + 1) * 6 + j - (oxC y).length = i * 6 + j := by simp [oxC]; omega
      rw [this]
      exact ih i (by simpa using hx)
theorem Oq.shape {w : World} {B : Nat} {v : Value} {l : List Ox} (h : Oq w B v l) : ∃ ao c, v = .slice ao l.length c ∧ Rq w ao (l.map Prod.fst) ∧ (∀ a, ao = some a → B ≤ a.block ∧ a.block < w.heap.size) ∧ (ao = none → c = 0) ∧ l.length ≤ c := by
  have hlt := World.ownsRow.lt h.row
  have hcells := fun g => World.ownsRow.cells h.row (g := g)
  rcases h.row.2 with ⟨rfl, hn⟩ | ⟨g, cap, cur, rfl, hb, hg, hnc, rest⟩
  · have hl : l = [] := List.eq_nil_of_length_eq_zero hn
    subst hl
    exact ⟨none, 0, rfl, Rq.nil _ _, by simp, fun _ => rfl, by simp⟩
  · refine ⟨some ⟨g, 0, none⟩, cap, rfl, ?_, ?_, by simp, hnc⟩
    · intro i o ho
      rw [List.getElem?_map] at ho
      obtain ⟨x, hx, rfl⟩ := Option.map_eq_some_iff.1 ho
      have hc := fun j (hj : j < 6) v' (hv : (oxC x)[j]? = some v') => hcells g rfl (i * 6 + j) v' (by rw [oxC_get l i j x hx hj]; exact hv)
      refine ⟨g, 0, x.2.1, x.2.2, rfl, ?_, ?_, ?_, ?_, ?_, ?_, ?_⟩
      · obtain ⟨ao, c, e, hr, -, hn', hc'⟩ := (h.path x (List.mem_of_getElem? hx)).shape
        simp only [Value.slice.injEq, true_and] at e
        obtain ⟨rfl, rfl⟩ := e
        have hm : x.1.p.length ≤ 140737488355328 := by have := h.plen x (List.mem_of_getElem? hx); omega
        exact ⟨hr, hc', hn', hm⟩
      · have := hc 0 (by omega) _ rfl; rw [add_lit] at this; simpa using this
      · have := hc 1 (by omega) _ rfl; rw [add_lit] at this; simpa using this
      · have := hc 2 (by omega) _ rfl; rw [add_lit] at this; simpa using this
      · have := hc 3 (by omega) _ rfl; rw [add_lit] at this; simpa using this
      · have := hc 4 (by omega) _ rfl; rw [add_lit] at this; simpa using this
      · have := hc 5 (by omega) _ rfl; rw [add_lit] at this; simpa using this
    · intro a ha
      cases ha
      exact hlt g rfl
/-- One operation more is laid behind. -/
theorem push_op {w : World} {B b : Nat} {v : Value} {l : List Ox} {x : Ox} (hown : Oq w B v l) (hx : Os w B (.slice x.2.1 x.1.p.length x.2.2) x.1.p) (hxl : x.1.p.length ≤ 1000000) (hcell : w.heap[b]? = some (.cells (oxC x).toArray 34 (0, 0))) (hp : l.length + 1 ≤ 1000000) (hB : B ≤ w.heap.size) :
    ∃ v' w', (Builtin.append_ #[22, 22] 22 #[v, .slice (some ⟨b, 0, none⟩) 1 1]).run Tryz.prog w = .ok v' w' ∧ Oq w' B v' (l ++ [x]) ∧ w.grownBy w' v.ownBlock ∧ Below B w w' := by
  have h9 := Tryz.info34
  cases hi0 : Tryz.prog.info? 34 with
  | none => rw [hi0] at h9; cases h9
  | some i0 =>
    rw [hi0] at h9
    simp only [Option.map_some, Option.some.injEq, Prod.mk.injEq] at h9
    obtain ⟨v', w', hr, h2, h3, -⟩ := run_append_own (P := Tryz.prog) w B 22 22 34 i0 zero34 6 80 Tryz.underlying22 hi0 h9.1 h9.2.1 h9.2.2 rfl (by decide) v l.length (l.flatMap oxC) hown.row ⟨b, 0, none⟩ 1 1 (oxC x) (by simp [oxC]) (fun j u hj => by rw [add_lit, cell_of_row _ _ (0 + j) (oxC x).toArray 34 (0, 0) hcell, Nat.zero_add]; simpa using hj) (fun u hu => by unfold oxC at hu; simp only [List.mem_cons, List.not_mem_nil, or_false] at hu; rcases hu with rfl | rfl | rfl | rfl | rfl | rfl <;> rfl) (by unfold maxLen; omega) (by omega) hB
    have hne : ∀ y : Ox, Os w B (.slice y.2.1 y.1.p.length y.2.2) y.1.p → ∀ k, (Value.slice y.2.1 y.1.p.length y.2.2).ownBlock = some k → ¬ (v.ownBlock = some k) := fun y hy k hk hv => by
      rcases hown.row.2 with ⟨rfl, -⟩ | ⟨g, cap, cur, rfl, -, hg, -⟩
      · cases hv
      · rcases hy.2 with ⟨e, -⟩ | ⟨g2, cap2, cur2, e, -, hg2, -⟩
        · rw [e] at hk; cases hk
        · rw [e] at hk
          simp only [Value.ownBlock, Option.some.injEq] at hk hv
          subst hk
          subst hv
          rw [hg] at hg2
          simp at hg2
    refine ⟨v', w', hr, ⟨by rw [List.length_append, List.flatMap_append]; simpa using h2, fun y hy => ?_, fun y hy => by
      rcases List.mem_append.1 hy with hy | hy
      · exact hown.plen y hy
      · simp only [List.mem_cons, List.not_mem_nil, or_false] at hy
        subst hy; exact hxl⟩, h3, (Below.refl B w).grown h3 hB (fun k hk => (World.ownsRow.lt hown.row k hk).1)⟩
    rcases List.mem_append.1 hy with hy | hy
    · exact (hown.path y hy).only (Only.ofGrown h3) (hne y (hown.path y hy))
    · simp only [List.mem_cons, List.not_mem_nil, or_false] at hy
      subst hy
      exact hx.only (Only.ofGrown h3) (hne y hx)
end Go.Proofs.YtpepgoelnagoaaaGreatDoor
