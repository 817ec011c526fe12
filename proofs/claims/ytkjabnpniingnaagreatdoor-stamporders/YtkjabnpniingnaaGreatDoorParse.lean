/-
  PARSE: what the program reads out of texts: guess, cutLast, ParseBranch, ParseName, Parse.
-/
import Derived.Test.YtkjabnpniingnaaGreatDoorMeant
import Derived.Deep.DeepCutAuto
import Derived.Deep.CutBlock
namespace Go.Proofs.YtkjabnpniingnaaGreatDoor
open Go.RowKit Go.Shelf
set_option linter.unusedSimpArgs false

/-- The number that a text may be of. -/
def guessI (s : ByteArray) : Int := match Lib.parseIntB 64 s.data.toList with | .ok v => v | .«syntax» => 0 | .range => Lib.intSat 64 s.data.toList
/-- What the library's variables hold. -/
structure EnvE (w : World) : Prop where
  env : Env w
  max : ∃ m, w.cell? ⟨0, 0, none⟩ = some (.int .i64 m)
  syn : ∃ t p, w.cell? ⟨2, 0, none⟩ = some (.iface t p)
  ran : ∃ t p, w.cell? ⟨3, 0, none⟩ = some (.iface t p)
theorem EnvE.below {w w' : World} (h : EnvE w) (hb : Below w.heap.size w w') : EnvE w' :=
  ⟨h.env.below hb, h.max.imp fun _ => kept hb, h.syn.imp fun _ => .imp fun _ => kept hb, h.ran.imp fun _ => .imp fun _ => kept hb⟩

theorem parseInt_any (s : ByteArray) (w : World) (hs : s.size ≤ 1000000) (hE : EnvE w) : Calls Tryz.prog 119 #[.string s, .int .i64 10, .int .i64 64] w fun e w' => (∃ z, e = .returned (.tuple #[.int .i64 (guessI s), z])) ∧ Below w.heap.size w w' := by
  unfold guessI
  cases h : Lib.parseIntB 64 s.data.toList with
  | ok v =>
    refine (Tryz.strconv_ParseInt_10_at64_ok s (by omega) v h w).mono ?_
    rintro e w' ⟨rfl, h⟩
    refine ⟨⟨_, rfl⟩, ?_⟩
    rcases h with rfl | ⟨t, rfl⟩
    · exact Below.refl _ _
    · exact Lib.bytesWorld_below _ _ _
  | «syntax» =>
    obtain ⟨t, p, hc⟩ := hE.syn
    refine (Tryz.strconv_ParseInt_10_at64_syntax s (by omega) h _ w hc (.inr ⟨t, p, rfl⟩)).mono ?_
    rintro e w' ⟨N, rfl, _, _, hb⟩
    exact ⟨⟨_, rfl⟩, hb⟩
  | range =>
    obtain ⟨t, p, hc⟩ := hE.ran
    refine (Tryz.strconv_ParseInt_10_at64_range s (by omega) h _ w hc (.inr ⟨t, p, rfl⟩)).mono ?_
    rintro e w' ⟨N, rfl, _, _, hb⟩
    exact ⟨⟨_, rfl⟩, hb⟩
set_option maxHeartbeats 1000000 in
theorem guess_any (s : ByteArray) (w : World) (hs : s.size ≤ 1000000) (hE : EnvE w) : Calls Tryz.prog 92 #[.string s] w fun e w' => e = .returned (.int .i64 (guessI s)) ∧ Below w.heap.size w w' := by
  have h := parseInt_any s w hs hE
  generalize guessI s = G at h ⊢
  go_enter Tryz.func92, Tryz.ntmps92
  go_wp2_with (go_at_call 119; refine h.mono ?_; rintro e w1 ⟨⟨z, rfl⟩, b1⟩)
  go_ret
  exact ⟨rfl, b1⟩

theorem ext_take (s : ByteArray) (n : Nat) : s.extract 0 n = ⟨(s.data.toList.take n).toArray⟩ := by
  apply ByteArray.ext
  apply Array.toList_inj.1
  simp [ByteArray.data_extract]
theorem ext_drop (s : ByteArray) (n : Nat) : s.extract n s.size = ⟨(s.data.toList.drop n).toArray⟩ := by
  apply ByteArray.ext
  apply Array.toList_inj.1
  rw [ByteArray.data_extract]
  simp
  rw [List.take_of_length_le (by rw [List.length_drop, ← Lib.size_eq s]; exact Nat.le_refl _)]
/-- Where the last dot stands (0 if there is none). -/
def lastK (s : ByteArray) : Nat := (Lib.lastIndex s.data.toList [46]).toNat
def lastA (s : ByteArray) : ByteArray := s.extract 0 (lastK s)
def lastB (s : ByteArray) : ByteArray := ⟨(Lib.trimPrefix (s.extract (lastK s) s.size).data.toList [46]).toArray⟩
theorem last_cases (s : ByteArray) : (Lib.lastIndex s.data.toList [46] = -1 ∧ lastK s = 0) ∨ (Lib.lastIndex s.data.toList [46] = (lastK s : Int) ∧ lastK s < s.size) := by
  unfold lastK Lib.lastIndex
  have hl := Lib.size_eq s
  split
  next h =>
    rcases Lib.lastOcc_spec s.data.toList [46] (s.data.toList.length - [(46 : UInt8)].length + 1) with ⟨h1, _⟩ | ⟨i, hi, h1, _⟩
    · left; rw [h1]; exact ⟨rfl, rfl⟩
    · right; rw [h1]; simp at h hi ⊢; omega
  next h => left; exact ⟨rfl, rfl⟩
set_option maxHeartbeats 1000000 in
set_option maxRecDepth 100000 in
theorem cutLast_any (s : ByteArray) (w : World) (hs : s.size ≤ 1000000) : Calls Tryz.prog 95 #[.string s] w fun e w' => e = .returned (.tuple #[.string (lastA s), .string (lastB s)]) ∧ Below w.heap.size w w' := by
  have h0 := fun W => Tryz.strings_LastIndex s ⟨#[46]⟩ (by omega) W
  have h1 := fun W => Tryz.strings_TrimPrefix (s.extract (lastK s) s.size) ⟨#[46]⟩ W
  have hc := last_cases s
  rw [show (⟨#[46]⟩ : ByteArray).data.toList = [46] from rfl] at h0 h1
  rw [show (⟨(Lib.trimPrefix (s.extract (lastK s) s.size).data.toList [46]).toArray⟩ : ByteArray) = lastB s from rfl] at h1
  unfold lastA
  generalize Lib.lastIndex s.data.toList [46] = LI at h0 hc
  generalize lastK s = K at hc h1 ⊢
  generalize lastB s = SB at h1 ⊢
  have hK : K ≤ s.size := by omega
  have hm : max (0 : Int) LI = (K : Int) := by omega
  have hB : Below w.heap.size w w.drew := (Below.refl _ w).drew
  go_enter Tryz.func95, Tryz.ntmps95
  go_wp2_with (go_at_call 120; refine (h0 _).mono ?_; rintro e w1 ⟨rfl, rfl⟩)
  refine wp_region_held_drew (S := (fun _ => True)) (by kernel_rfl) trivial (fun hHeld => ?_)
  try dsimp only at hHeld
  refine take_op (i := 0) (d := 8) (OP := Op.move (Operand.tmp 0)) (T := 9) (v := ?vy1x) rfl rfl rfl rfl (by kernel_rfl) (by kernel_rfl) (by kernel_rfl) (fun _ _ _ h => h) (by rfl) ?hy1x hHeld ?ry1x
  case hy1x => (intro w' hSw; (try dsimp only at hSw); go_simp <;> with_reducible rfl)
  try simp only [Act.put, List.setIfInBounds_toArray, List.set_cons_zero, List.set_cons_succ]
  refine take_op (i := 1) (d := 9) (OP := Op.move (Operand.tmp 4)) (T := 3) (v := ?vy2x) rfl rfl rfl rfl (by kernel_rfl) (by kernel_rfl) (by kernel_rfl) (fun _ _ _ h => h) (by rfl) ?hy2x hHeld ?ry2x
  case hy2x => (intro w' hSw; (try dsimp only at hSw); go_simp <;> with_reducible rfl)
  try simp only [Act.put, List.setIfInBounds_toArray, List.set_cons_zero, List.set_cons_succ]
  refine take_op (i := 3) (d := 11) (OP := Op.move (Operand.tmp 0)) (T := 9) (v := ?vy3x) rfl rfl rfl rfl (by kernel_rfl) (by kernel_rfl) (by kernel_rfl) (fun _ _ _ h => h) (by rfl) ?hy3x hHeld ?ry3x
  case hy3x => (intro w' hSw; (try dsimp only at hSw); go_simp <;> with_reducible rfl)
  try simp only [Act.put, List.setIfInBounds_toArray, List.set_cons_zero, List.set_cons_succ]
  refine take_op (i := 4) (d := 12) (OP := Op.move (Operand.tmp 4)) (T := 3) (v := ?vy4x) rfl rfl rfl rfl (by kernel_rfl) (by kernel_rfl) (by kernel_rfl) (fun _ _ _ h => h) (by rfl) ?hy4x hHeld ?ry4x
  case hy4x => (intro w' hSw; (try dsimp only at hSw); go_simp <;> with_reducible rfl)
  try simp only [Act.put, List.setIfInBounds_toArray, List.set_cons_zero, List.set_cons_succ]
  refine take_op (i := 2) (d := 10) (OP := Op.slice 9 (Operand.tmp 8) none (some (Operand.tmp 9)) none) (T := 9) (v := ?vy5x) rfl rfl rfl rfl (by kernel_rfl) (by kernel_rfl) (by kernel_rfl) (fun _ _ _ h => h) (by rfl) ?hy5x hHeld ?ry5x
  case hy5x => (intro w' hSw; (try dsimp only at hSw); go_simp <;> with_reducible rfl)
  try simp only [Act.put, List.setIfInBounds_toArray, List.set_cons_zero, List.set_cons_succ]
  refine take_op (i := 5) (d := 13) (OP := Op.slice 9 (Operand.tmp 11) (some (Operand.tmp 12)) none none) (T := 9) (v := ?vy6x) rfl rfl rfl rfl (by kernel_rfl) (by kernel_rfl) (by kernel_rfl) (fun _ _ _ h => h) (by rfl) ?hy6x hHeld ?ry6x
  case hy6x => (intro w' hSw; (try dsimp only at hSw); go_simp <;> with_reducible rfl)
  try simp only [Act.put, List.setIfInBounds_toArray, List.set_cons_zero, List.set_cons_succ]
  refine call_op (i := 6) (d := 14) (OP := Op.call { callee := Callee.value (Operand.func 121), args := #[Operand.tmp 13, Operand.const (Value.string { data := #[46] })], argTypes := #[9, 9] }) (T := 9) (f := 121) (args := #[.string (s.extract K s.size), .string ⟨#[46]⟩]) rfl rfl rfl rfl (by kernel_rfl) (by rfl) (by go_simp) ?_
  refine (h1 _).mono ?_
  rintro e w2 ⟨rfl, rfl⟩
  refine ⟨_, rfl, trivial, ?_⟩
  replace hHeld := trivial
  try simp only [Act.put, List.setIfInBounds_toArray, List.set_cons_zero, List.set_cons_succ]
  refine take_op (i := 7) (d := 2) (OP := Op.assign (Operand.tmp 10)) (T := 9) (v := ?vy7x) rfl rfl rfl rfl (by kernel_rfl) (by kernel_rfl) (by kernel_rfl) (fun _ _ _ h => h) (by rfl) ?hy7x hHeld ?ry7x
  case hy7x => (intro w' hSw; (try dsimp only at hSw); go_simp <;> with_reducible rfl)
  try simp only [Act.put, List.setIfInBounds_toArray, List.set_cons_zero, List.set_cons_succ]
  refine take_op (i := 8) (d := 3) (OP := Op.assign (Operand.tmp 14)) (T := 9) (v := ?vy8x) rfl rfl rfl rfl (by kernel_rfl) (by kernel_rfl) (by kernel_rfl) (fun _ _ _ h => h) (by rfl) ?hy8x hHeld ?ry8x
  case hy8x => (intro w' hSw; (try dsimp only at hSw); go_simp <;> with_reducible rfl)
  try simp only [Act.put, List.setIfInBounds_toArray, List.set_cons_zero, List.set_cons_succ]
  refine wpAnyH_done (by kernel_rfl) ?_ _
  go_wp2
  go_ret2
  exact ⟨rfl, hB⟩

def cutA (s : ByteArray) : ByteArray := ⟨(Lib.cut s.data.toList [46]).1.toArray⟩
def cutB (s : ByteArray) : ByteArray := ⟨(Lib.cut s.data.toList [46]).2.1.toArray⟩
theorem cut_sizes (s : ByteArray) : (cutA s).size ≤ s.size ∧ (cutB s).size ≤ s.size := by
  have hl := Lib.size_eq s
  rw [hl]
  unfold cutA cutB Lib.cut
  have h1 : ∀ l : List UInt8, (⟨l.toArray⟩ : ByteArray).size = l.length := fun l => rfl
  split
  · simp only [h1, List.length_take, List.length_drop]; omega
  · simp only [h1, List.length_nil]; omega
theorem cut_any (s : ByteArray) (w : World) (hs : s.size ≤ 1000000) (hE : EnvE w) : Calls Tryz.prog 90 #[.string s, .string ⟨#[46]⟩] w fun e w' => (∃ z, e = .returned (.tuple #[.string (cutA s), .string (cutB s), z])) ∧ Below w.heap.size w w' := by
  obtain ⟨m, hm⟩ := hE.max
  refine (Tryz.strings_Cut s ⟨#[46]⟩ m w (by omega) hm).mono ?_
  rintro e w' ⟨rfl, n, rfl⟩
  exact ⟨⟨_, rfl⟩, below_drew w n⟩

/-- Whether a text is a branch's, and the branch. -/
def pbV (s : ByteArray) : Bool := branchV (guessI (cutA s)) (cutB s) && decide (brT (guessI (cutA s)) (cutB s) = s)
def pbR (s : ByteArray) : Int := if pbV s then guessI (cutA s) else 0
def pbL (s : ByteArray) : ByteArray := if pbV s then cutB s else ⟨#[]⟩
theorem meant_iff (V : Bool) (t s e : ByteArray) : ((if V then (0 : Int) else 2) = 0 ∧ (if V then t else e) = s) ↔ (V && decide (t = s)) = true := by
  cases V <;> simp

set_option maxHeartbeats 1000000 in
set_option maxRecDepth 100000 in
theorem parseBranch_any (s : ByteArray) (w : World) (hs : s.size ≤ 1000000) (hE : EnvE w) : Calls Tryz.prog 42 #[.string s] w fun e w' => e = .returned (.tuple #[bv (pbR s) (pbL s), .int .i64 (if pbV s then 0 else 4)]) ∧ Below w.heap.size w w' := by
  have hb := below_new w (.cells #[.int .i64 0, .string ⟨#[]⟩] 23)
  have h1 := cut_any s _ hs (hE.below hb)
  have h2 : ∀ W, Below w.heap.size w W → Calls Tryz.prog 92 #[.string (cutA s)] W fun e w' => e = .returned (.int .i64 (guessI (cutA s))) ∧ Below W.heap.size W w' := fun W h => guess_any _ W (by have := cut_sizes s; omega) (hE.below h)
  have h3 : ∀ W, Below w.heap.size w W → Calls Tryz.prog 91 #[bv (guessI (cutA s)) (cutB s), .string s, .func (.func 15) #[] #[]] W fun e w' => e = .returned (.tuple #[bv (pbR s) (pbL s), .int .i64 (if pbV s then 0 else 4)]) ∧ Below W.heap.size W w' := fun W h => by
    refine (meant15_any (guessI (cutA s)) (cutB s) s _ _ W (by split <;> simp) (fun W' h' => textBranch_any _ _ W' ((hE.below h).env.below h'))).mono ?_
    rintro e w' ⟨rfl, hb⟩
    refine ⟨?_, hb⟩
    simp only [meant_iff]
    rw [show (branchV (guessI (cutA s)) (cutB s) && decide (brT (guessI (cutA s)) (cutB s) = s)) = pbV s from rfl]
    unfold pbR pbL
    cases pbV s <;> rfl
  have hk : ∀ W, Below (w.heap.size + 1) (w.alloc (.cells #[.int .i64 0, .string ⟨#[]⟩] 23)) W → W.heap[w.heap.size]? = some (.cells #[.int .i64 0, .string ⟨#[]⟩] 23 (0, 0)) := fun W h => (h.block _ (by omega)).trans (heap_alloc_new w _)
  generalize (if pbV s then (0 : Int) else 4) = E at h3 ⊢
  generalize pbR s = R at h3 ⊢
  generalize pbL s = L at h3 ⊢
  generalize guessI (cutA s) = GA at h2 h3
  generalize cutA s = CA at h1 h2
  generalize cutB s = CB at h1 h3
  go_enter Tryz.func42, Tryz.ntmps42
  go_wp2_with (go_at_call 90; refine h1.mono ?_; rintro e w1 ⟨⟨z, rfl⟩, b1⟩; have c1 := hb.trans (b1.mono hb.size); have HB := hide b1; clear b1)
  go_wp2_with (go_at_call 92; refine (h2 _ c1).mono ?_; rintro e w2 ⟨rfl, b2⟩; have c2 := c1.trans (b2.mono c1.size); have HB2 := hide b2; clear b2)
  go_wp2_with (go_at_call 91; refine (h3 _ c2).mono ?_; rintro e w3 ⟨rfl, b3⟩; have c3 := c2.trans (b3.mono c2.size); have HR := hide (hk w3 (by have h0 := HB.out; have h2 := HB2.out; have e1 := h0.size; have e2 := h2.size; simp at h0 e1; exact (h0.trans (h2.mono (by omega))).trans (b3.mono (by omega)))); obtain ⟨z0, z1, zf0, zf1⟩ := blk2 HR.out; clear b3)
  refine ret_row_tmp w.heap.size [.int .i64 R, .string L] rfl rfl rfl Tryz.underlying23 rfl (by kernel_rfl) (t := 23) (fr := (0, 0)) (set2 HR.out) rfl ?_
  exact ⟨rfl, bel2 (Nat.le_refl _) c3⟩

theorem set3_other {w : World} {R b : Nat} {k : Nat} {x y z : Value} (h : R ≠ b) : (((w.setCell ⟨R, 0, none⟩ x).setCell ⟨R, 1, none⟩ y).setCell ⟨R, 2, none⟩ z).cell? ⟨b, k, none⟩ = w.cell? ⟨b, k, none⟩ := by
  refine World.cell?_of_block ?_
  rw [Below.heap_setCell _ _ _ _ (Ne.symm h), Below.heap_setCell _ _ _ _ (Ne.symm h), Below.heap_setCell _ _ _ _ (Ne.symm h)]
/-- Whether a text is a name's, and the name. -/
def pnV (s : ByteArray) : Bool := nameV (pbR (lastA s)) (pbL (lastA s)) (guessI (lastB s)) && decide (nmT (pbR (lastA s)) (pbL (lastA s)) (guessI (lastB s)) = s)
def pnR (s : ByteArray) : Int := if pnV s then pbR (lastA s) else 0
def pnL (s : ByteArray) : ByteArray := if pnV s then pbL (lastA s) else ⟨#[]⟩
def pnN (s : ByteArray) : Int := if pnV s then guessI (lastB s) else 0
theorem last_sizes (s : ByteArray) : (lastA s).size ≤ s.size ∧ (lastB s).size ≤ s.size := by
  have hl := Lib.size_eq s
  have h1 : ∀ l : List UInt8, (⟨l.toArray⟩ : ByteArray).size = l.length := fun l => rfl
  unfold lastA lastB
  rw [ext_take, ext_drop, hl]
  constructor
  · simp only [h1, List.length_take]; omega
  · unfold Lib.trimPrefix
    split
    · simp only [h1, List.length_drop]; omega
    · simp only [h1, List.length_drop]; omega
set_option maxHeartbeats 2000000 in
set_option maxRecDepth 100000 in
theorem parseName_any (s : ByteArray) (w : World) (hs : s.size ≤ 1000000) (hE : EnvE w) : Calls Tryz.prog 44 #[.string s] w fun e w' => e = .returned (.tuple #[nv (pnR s) (pnL s) (pnN s), .int .i64 (if pnV s then 0 else 4)]) ∧ Below w.heap.size w w' := by
  have hb := below_new w (.cells #[.int .i64 0, .string ⟨#[]⟩, .int .i64 0] 25)
  have h1 := cutLast_any s (w.alloc (.cells #[.int .i64 0, .string ⟨#[]⟩, .int .i64 0] 25)) hs
  have h2 : ∀ W, Below w.heap.size w W → Calls Tryz.prog 42 #[.string (lastA s)] W fun e w' => e = .returned (.tuple #[bv (pbR (lastA s)) (pbL (lastA s)), .int .i64 (if pbV (lastA s) then 0 else 4)]) ∧ Below W.heap.size W w' := fun W h => parseBranch_any _ W (by have := last_sizes s; omega) (hE.below h)
  have h4 : ∀ W, Below w.heap.size w W → Calls Tryz.prog 92 #[.string (lastB s)] W fun e w' => e = .returned (.int .i64 (guessI (lastB s))) ∧ Below W.heap.size W w' := fun W h => guess_any _ W (by have := last_sizes s; omega) (hE.below h)
  have h3 : ∀ W, Below w.heap.size w W → Calls Tryz.prog 96 #[nv (pbR (lastA s)) (pbL (lastA s)) (guessI (lastB s)), .string s, .func (.func 14) #[] #[]] W fun e w' => e = .returned (.tuple #[nv (pnR s) (pnL s) (pnN s), .int .i64 (if pnV s then 0 else 4)]) ∧ Below W.heap.size W w' := fun W h => by
    refine (meant14_any _ _ _ s _ _ W (by split <;> simp) (fun W' h' => textName_any _ _ _ W' ((hE.below h).env.below h'))).mono ?_
    rintro e w' ⟨rfl, hb⟩
    refine ⟨?_, hb⟩
    simp only [meant_iff]
    rw [show (nameV (pbR (lastA s)) (pbL (lastA s)) (guessI (lastB s)) && decide (nmT (pbR (lastA s)) (pbL (lastA s)) (guessI (lastB s)) = s)) = pnV s from rfl]
    unfold pnR pnL pnN
    cases pnV s <;> rfl
  have hk : ∀ W, Below (w.heap.size + 1) (w.alloc (.cells #[.int .i64 0, .string ⟨#[]⟩, .int .i64 0] 25)) W → W.heap[w.heap.size]? = some (.cells #[.int .i64 0, .string ⟨#[]⟩, .int .i64 0] 25 (0, 0)) := fun W h => (h.block _ (by omega)).trans (heap_alloc_new w _)
  generalize (if pnV s then (0 : Int) else 4) = E at h3 ⊢
  generalize (if pbV (lastA s) then (0 : Int) else 4) = E2 at h2
  generalize pnR s = R at h3 ⊢
  generalize pnL s = L at h3 ⊢
  generalize pnN s = N at h3 ⊢
  generalize pbR (lastA s) = R2 at h2 h3
  generalize pbL (lastA s) = L2 at h2 h3
  generalize guessI (lastB s) = GB at h3 h4
  generalize lastA s = LA at h1 h2
  generalize lastB s = LB at h1 h4
  go_enter Tryz.func44, Tryz.ntmps44
  go_wp2_with (go_at_call 95; refine h1.mono ?_; rintro e w1 ⟨rfl, b1⟩; have c1 := hb.trans (b1.mono hb.size); have HB := hide b1; have q1 := b1.size; clear b1)
  go_wp2_with (go_at_call 42; refine (h2 _ c1).mono ?_; rintro e w2 ⟨rfl, b2⟩; have c2 := c1.trans (b2.mono c1.size); have HB2 := hide b2; have q2 := b2.size; clear b2)
  have hr1 : Below (w.heap.size + 1) (w.alloc (.cells #[.int .i64 0, .string ⟨#[]⟩, .int .i64 0] 25)) w2 := by
    have h0 := HB.out
    have e2 := HB2.out
    simp at h0 q1
    exact h0.trans (e2.mono (by omega))
  have hz : w.heap.size + 1 ≤ w2.heap.size := by simp at q1; omega
  obtain ⟨W, hW⟩ : ∃ W, W = w2.alloc (.cells #[.int .i64 R2, .string L2] 23) := ⟨_, rfl⟩
  have hn := heap_alloc_new w2 (.cells #[.int .i64 R2, .string L2] 23)
  have c3 := c2.alloc c2.size (.cells #[.int .i64 R2, .string L2] 23)
  have hr2 := hr1.alloc (by omega) (.cells #[.int .i64 R2, .string L2] 23)
  have sz : (w2.alloc (.cells #[.int .i64 R2, .string L2] 23)).heap.size = w2.heap.size + 1 := by simp
  rw [← hW] at hn c3 hr2 sz ⊢
  obtain ⟨y0, y1, _, _⟩ := blk2 hn
  have hS1 : W.drew.cell? ⟨w2.heap.size, 0, none⟩ = some (.int .i64 R2) ∧ W.drew.cell? ⟨w2.heap.size, 1, none⟩ = some (.string L2) := ⟨y0, y1⟩
  have hD : Below w.heap.size w W.drew := c3.drew
  have hDr : Below (w.heap.size + 1) (w.alloc (.cells #[.int .i64 0, .string ⟨#[]⟩, .int .i64 0] 25)) W.drew := hr2.drew
  clear hr1 hr2 c3 hn y0 y1 HB HB2 hW h1 h2
  refine wp_region_held_drew (S := (fun w' => w'.cell? ⟨w2.heap.size, 0, none⟩ = some (.int .i64 R2) ∧ w'.cell? ⟨w2.heap.size, 1, none⟩ = some (.string L2))) (by kernel_rfl) (by exact hS1) (fun hHeld => ?_)
  try dsimp only at hHeld
  refine take_op (i := 0) (d := 18) (OP := Op.load 23 (Operand.tmp 6)) (T := 23) (v := ?vy9x) rfl rfl rfl rfl (by kernel_rfl) (by kernel_rfl) (by kernel_rfl) (fun _ _ _ h => h) (by rfl) ?hy9x hHeld ?ry9x
  case hy9x => (intro w' hSw; (try dsimp only at hSw); go_simp <;> with_reducible rfl)
  try simp only [Act.put, List.setIfInBounds_toArray, List.set_cons_zero, List.set_cons_succ]
  refine take_op (i := 1) (d := 19) (OP := Op.move (Operand.tmp 5)) (T := 9) (v := ?vy10x) rfl rfl rfl rfl (by kernel_rfl) (by kernel_rfl) (by kernel_rfl) (fun _ _ _ h => h) (by rfl) ?hy10x hHeld ?ry10x
  case hy10x => (intro w' hSw; (try dsimp only at hSw); go_simp <;> with_reducible rfl)
  try simp only [Act.put, List.setIfInBounds_toArray, List.set_cons_zero, List.set_cons_succ]
  refine take_op (i := 4) (d := 22) (OP := Op.move (Operand.tmp 0)) (T := 9) (v := ?vy11x) rfl rfl rfl rfl (by kernel_rfl) (by kernel_rfl) (by kernel_rfl) (fun _ _ _ h => h) (by rfl) ?hy11x hHeld ?ry11x
  case hy11x => (intro w' hSw; (try dsimp only at hSw); go_simp <;> with_reducible rfl)
  try simp only [Act.put, List.setIfInBounds_toArray, List.set_cons_zero, List.set_cons_succ]
  refine call_op (i := 2) (d := 20) (OP := Op.call { callee := Callee.value (Operand.func 92), args := #[Operand.tmp 19], argTypes := #[9] }) (T := 2) (f := 92) (args := #[.string LB]) rfl rfl rfl rfl (by kernel_rfl) (by rfl) (by go_simp) ?_
  refine (h4 _ hD).mono ?_
  rintro e w5 ⟨rfl, b5⟩
  have hS5 := (And.intro (kept b5 hHeld.1) (kept b5 hHeld.2))
  have hD5 := hD.trans (b5.mono hD.size)
  have hDr5 := hDr.trans (b5.mono (by show w.heap.size + 1 ≤ W.heap.size; omega))
  have s5 : W.heap.size ≤ w5.heap.size := b5.size
  refine ⟨_, rfl, hS5, ?_⟩
  replace hHeld := hS5
  try simp only [Act.put, List.setIfInBounds_toArray, List.set_cons_zero, List.set_cons_succ]
  refine take_op (i := 3) (d := 21) (OP := Op.build 25 #[(0, Operand.tmp 18), (1, Operand.tmp 20)]) (T := 25) (v := ?vy12x) rfl rfl rfl rfl (by kernel_rfl) (by kernel_rfl) (by kernel_rfl) (fun _ _ _ h => h) (by rfl) ?hy12x hHeld ?ry12x
  case hy12x => (intro w' hSw; (try dsimp only at hSw); go_simp <;> with_reducible rfl)
  try simp only [Act.put, List.setIfInBounds_toArray, List.set_cons_zero, List.set_cons_succ]
  refine call_op (i := 5) (d := 23) (OP := Op.call { callee := Callee.value (Operand.func 96), args := #[Operand.tmp 21, Operand.tmp 22, Operand.func 14], argTypes := #[25, 9, 37] }) (T := 64) (f := 96) (args := #[nv R2 L2 GB, .string s, .func (.func 14) #[] #[]]) rfl rfl rfl rfl (by kernel_rfl) (by rfl) (by go_simp) ?_
  refine (h3 _ hD5).mono ?_
  rintro e w6 ⟨rfl, b6⟩
  have hS6 := (And.intro (kept b6 hHeld.1) (kept b6 hHeld.2))
  have hD6 := hD5.trans (b6.mono hD5.size)
  have hDr6 := hDr5.trans (b6.mono (by omega))
  have s6 := b6.size
  have HR := hk _ hDr6
  obtain ⟨z0, z1, z2, zf0, zf1, zf2⟩ := blk3 HR
  refine ⟨_, rfl, hS6, ?_⟩
  replace hHeld := hS6
  try simp only [Act.put, List.setIfInBounds_toArray, List.set_cons_zero, List.set_cons_succ]
  refine take_op (i := 6) (d := 24) (OP := Op.extract (Operand.tmp 23) 0) (T := 25) (v := ?vy13x) rfl rfl rfl rfl (by kernel_rfl) (by kernel_rfl) (by kernel_rfl) (fun _ _ _ h => h) (by rfl) ?hy13x hHeld ?ry13x
  case hy13x => (intro w' hSw; (try dsimp only at hSw); go_simp <;> with_reducible rfl)
  try simp only [Act.put, List.setIfInBounds_toArray, List.set_cons_zero, List.set_cons_succ]
  refine take_op (i := 7) (d := 25) (OP := Op.extract (Operand.tmp 23) 1) (T := 30) (v := ?vy14x) rfl rfl rfl rfl (by kernel_rfl) (by kernel_rfl) (by kernel_rfl) (fun _ _ _ h => h) (by rfl) ?hy14x hHeld ?ry14x
  case hy14x => (intro w' hSw; (try dsimp only at hSw); go_simp <;> with_reducible rfl)
  try simp only [Act.put, List.setIfInBounds_toArray, List.set_cons_zero, List.set_cons_succ]
  have hx8 : (((w6.setCell ⟨w.heap.size, 0, none⟩ (.int .i64 R)).setCell ⟨w.heap.size, 1, none⟩ (.string L)).setCell ⟨w.heap.size, 2, none⟩ (.int .i64 N)).cell? ⟨w2.heap.size, 0, none⟩ = some (.int .i64 R2) ∧ (((w6.setCell ⟨w.heap.size, 0, none⟩ (.int .i64 R)).setCell ⟨w.heap.size, 1, none⟩ (.string L)).setCell ⟨w.heap.size, 2, none⟩ (.int .i64 N)).cell? ⟨w2.heap.size, 1, none⟩ = some (.string L2) := by
    have hne : w.heap.size ≠ w2.heap.size := by omega
    exact ⟨by rw [set3_other hne]; exact hHeld.1, by rw [set3_other hne]; exact hHeld.2⟩
  refine skip_op (i := 8) (OP := Op.store 25 (Operand.tmp 2) (Operand.tmp 24)) (T := 0) (w' := (((w6.setCell ⟨w.heap.size, 0, none⟩ (.int .i64 R)).setCell ⟨w.heap.size, 1, none⟩ (.string L)).setCell ⟨w.heap.size, 2, none⟩ (.int .i64 N))) rfl rfl rfl rfl (by kernel_rfl) (by rfl) (by go_simp) ⟨hx8, ?_⟩
  replace hHeld := hx8
  refine take_op (i := 9) (d := 3) (OP := Op.assign (Operand.tmp 25)) (T := 30) (v := ?vy15x) rfl rfl rfl rfl (by kernel_rfl) (by kernel_rfl) (by kernel_rfl) (fun _ _ _ h => h) (by rfl) ?hy15x hHeld ?ry15x
  case hy15x => (intro w' hSw; (try dsimp only at hSw); go_simp <;> with_reducible rfl)
  try simp only [Act.put, List.setIfInBounds_toArray, List.set_cons_zero, List.set_cons_succ]
  refine wpAnyH_done (by kernel_rfl) ?_ _
  go_wp2
  refine ret_row_tmp w.heap.size [.int .i64 R, .string L, .int .i64 N] rfl rfl rfl Tryz.underlying25 rfl (by kernel_rfl) (t := 25) (fr := (0, 0)) (set3 HR) rfl ?_
  exact ⟨rfl, bel3 (Nat.le_refl _) hD6⟩
end Go.Proofs.YtkjabnpniingnaaGreatDoor
