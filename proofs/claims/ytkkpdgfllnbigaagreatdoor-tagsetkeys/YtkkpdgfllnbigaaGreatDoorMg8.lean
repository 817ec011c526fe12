/-
  MEANT: a value, if its own text is the text.
  OFKEY: the stamp of a key.
  ELEMENTS IN ROWS: read ('Re'), owned ('Oe').
-/
import Derived.Test.YtkkpdgfllnbigaaGreatDoorMg7
import Derived.Deep.DeepCutAuto
import Derived.Deep.CutBlock
import Derived.Shelf.SlSortCmp.NoneTotal
import Derived.Test.YtkkpdgfllnbigaaGreatDoorMg5
namespace Go.Proofs.YtkkpdgfllnbigaaGreatDoor
open Go.RowKit Go.Shelf
set_option linter.unusedSimpArgs false

theorem bel5 {B : Nat} {a w : World} {R : Nat} (hR : B ≤ R) {x' y' z' u' v' : Value} (h : Below B a w) : Below B a (((((w.setCell ⟨R, 0, none⟩ x').setCell ⟨R, 1, none⟩ y').setCell ⟨R, 2, none⟩ z').setCell ⟨R, 3, none⟩ u').setCell ⟨R, 4, none⟩ v') := (((((h.setCell (p := ⟨R, 0, none⟩) hR _).setCell (p := ⟨R, 1, none⟩) hR _).setCell (p := ⟨R, 2, none⟩) hR _).setCell (p := ⟨R, 3, none⟩) hR _).setCell (p := ⟨R, 4, none⟩) hR _)

set_option maxHeartbeats 2000000 in
set_option maxRecDepth 100000 in
theorem meant16_any (g r : Int) (l : ByteArray) (n x : Int) (s T : ByteArray) (E : Int) (w : World) (hE : E = 0 ∨ E = 2) (hf : ∀ W, Below w.heap.size w W → Calls Tryz.prog 20 #[sv g r l n x] W fun e w' => e = .returned (.tuple #[.string T, .int .i64 E]) ∧ Below W.heap.size W w') :
    Calls Tryz.prog 70 #[sv g r l n x, .string s, .func (.func 20) #[] #[]] w fun e w' => e = .returned (.tuple #[if E = 0 ∧ T = s then sv g r l n x else sv 0 0 ⟨#[]⟩ 0 0, .int .i64 (if E = 0 ∧ T = s then 0 else 4)]) ∧ Below w.heap.size w w' := by
  have hb : Below w.heap.size w ((w.alloc (.cells #[.int .i64 g, .int .i64 r, .string l, .int .i64 n, .int .i64 x] 27)).alloc (.cells #[.int .i64 0, .int .i64 0, .string ⟨#[]⟩, .int .i64 0, .int .i64 0] 27)) := ((Below.refl _ w).alloc (Nat.le_refl _) _).alloc (by simp) _
  obtain ⟨m0, m1⟩ := new2 w (.cells #[.int .i64 g, .int .i64 r, .string l, .int .i64 n, .int .i64 x] 27) (.cells #[.int .i64 0, .int .i64 0, .string ⟨#[]⟩, .int .i64 0, .int .i64 0] 27)
  have hm := hf _ hb
  obtain ⟨p0, p1, p2, p3, p4, _, _, _, _, _⟩ := blk5 m0
  have hk0 : ∀ W, Below ((w.alloc (.cells #[.int .i64 g, .int .i64 r, .string l, .int .i64 n, .int .i64 x] 27)).alloc (.cells #[.int .i64 0, .int .i64 0, .string ⟨#[]⟩, .int .i64 0, .int .i64 0] 27)).heap.size ((w.alloc (.cells #[.int .i64 g, .int .i64 r, .string l, .int .i64 n, .int .i64 x] 27)).alloc (.cells #[.int .i64 0, .int .i64 0, .string ⟨#[]⟩, .int .i64 0, .int .i64 0] 27)) W → W.heap[w.heap.size]? = some (.cells #[.int .i64 g, .int .i64 r, .string l, .int .i64 n, .int .i64 x] 27 (0, 0)) := fun W h => (h.block _ (by simp <;> omega)).trans m0
  have hk : ∀ W, Below ((w.alloc (.cells #[.int .i64 g, .int .i64 r, .string l, .int .i64 n, .int .i64 x] 27)).alloc (.cells #[.int .i64 0, .int .i64 0, .string ⟨#[]⟩, .int .i64 0, .int .i64 0] 27)).heap.size ((w.alloc (.cells #[.int .i64 g, .int .i64 r, .string l, .int .i64 n, .int .i64 x] 27)).alloc (.cells #[.int .i64 0, .int .i64 0, .string ⟨#[]⟩, .int .i64 0, .int .i64 0] 27)) W → W.heap[w.heap.size + 1]? = some (.cells #[.int .i64 0, .int .i64 0, .string ⟨#[]⟩, .int .i64 0, .int .i64 0] 27 (0, 0)) := fun W h => (h.block _ (by simp <;> omega)).trans m1
  rcases hE with rfl | rfl
  · by_cases hT : T = s
    · subst hT
      rw [if_pos ⟨rfl, rfl⟩, if_pos ⟨rfl, rfl⟩]
      go_enter Tryz.func70, Tryz.ntmps70
      go_wp2_with (go_at_call 20; refine hm.mono ?_; rintro e w1 ⟨rfl, b1⟩; have hB1 := hide (hb.trans (b1.mono hb.size)); have HR := hide (hk _ b1); obtain ⟨z0, z1, z2, z3, z4, zf0, zf1, zf2, zf3, zf4⟩ := blk5 HR.out; obtain ⟨q0, q1, q2, q3, q4, qf0, qf1, qf2, qf3, qf4⟩ := blk5 (hk0 _ b1); clear b1)
      refine ret_row_tmp (w.heap.size + 1) [.int .i64 g, .int .i64 r, .string l, .int .i64 n, .int .i64 x] rfl rfl rfl Tryz.underlying27 rfl (by kernel_rfl) (t := 27) (fr := (0, 0)) (set5 HR.out) rfl ?_
      exact ⟨rfl, bel5 (by omega) hB1.out⟩
    · have hne : (T.toList == s.toList) = false := by
        rw [beq_eq_false_iff_ne, ByteArray.toList_eq, ByteArray.toList_eq]
        exact fun e => hT (ByteArray.ext (Array.toList_inj.1 e))
      rw [if_neg (fun h : (0 : Int) = 0 ∧ T = s => hT h.2), if_neg (fun h : (0 : Int) = 0 ∧ T = s => hT h.2)]
      go_enter Tryz.func70, Tryz.ntmps70
      go_wp2_with (go_at_call 20; refine hm.mono ?_; rintro e w1 ⟨rfl, b1⟩; have hB1 := hide (hb.trans (b1.mono hb.size)); have HR := hide (hk _ (b1.alloc (o := .cells #[.int .i64 0, .int .i64 0, .string ⟨#[]⟩, .int .i64 0, .int .i64 0] 27) b1.size)); have hw1 := b1.size; obtain ⟨z0, z1, z2, z3, z4, zf0, zf1, zf2, zf3, zf4⟩ := blk5 HR.out; clear b1)
      refine ret_row_tmp (w.heap.size + 1) [.int .i64 0, .int .i64 0, .string ⟨#[]⟩, .int .i64 0, .int .i64 0] rfl rfl rfl Tryz.underlying27 rfl (by kernel_rfl) (t := 27) (fr := (0, 0)) (set5 HR.out) rfl ?_
      exact ⟨rfl, bel5 (by omega) (hB1.out.alloc hB1.out.size _)⟩
  · rw [if_neg (fun h : (2 : Int) = 0 ∧ T = s => by omega), if_neg (fun h : (2 : Int) = 0 ∧ T = s => by omega)]
    go_enter Tryz.func70, Tryz.ntmps70
    go_wp2_with (go_at_call 20; refine hm.mono ?_; rintro e w1 ⟨rfl, b1⟩; have hB1 := hide (hb.trans (b1.mono hb.size)); have HR := hide (hk _ (b1.alloc (o := .cells #[.int .i64 0, .int .i64 0, .string ⟨#[]⟩, .int .i64 0, .int .i64 0] 27) b1.size)); have hw1 := b1.size; obtain ⟨z0, z1, z2, z3, z4, zf0, zf1, zf2, zf3, zf4⟩ := blk5 HR.out; clear b1)
    refine ret_row_tmp (w.heap.size + 1) [.int .i64 0, .int .i64 0, .string ⟨#[]⟩, .int .i64 0, .int .i64 0] rfl rfl rfl Tryz.underlying27 rfl (by kernel_rfl) (t := 27) (fr := (0, 0)) (set5 HR.out) rfl ?_
    exact ⟨rfl, bel5 (by omega) (hB1.out.alloc hB1.out.size _)⟩

end Go.Proofs.YtkkpdgfllnbigaaGreatDoor
namespace Go.Proofs.YtkkpdgfllnbigaaGreatDoor
open Go.RowKit Go.Shelf
set_option linter.unusedSimpArgs false

def stepH (n b : Int) : Int := bits BinOp.or IntKind.i64 (wrap64 (n * 256)) b
/-- The number whose bytes they are, the highest first, as an int64. -/
def ofHi (l : List Int) : Int := l.foldl stepH 0
set_option maxHeartbeats 1000000 in
set_option maxRecDepth 100000 in
theorem ofHighest_any (s : ByteArray) (w : World) (hs : s.size ≤ 1000000) : Calls Tryz.prog 69 #[.string s] w fun e w' => e = .returned (.int .i64 (ofHi (ints s.data.toList))) ∧ Below w.heap.size w w' := by
  obtain ⟨c, W', hcv, hRd, hB⟩ := conv_str s w
  have hL := ints_size s
  have H := hide (And.intro hRd hB)
  have HL := hide hL
  have hT : ∀ k b, (ints s.data.toList)[k]? = some b → ofHi ((ints s.data.toList).take (k + 1)) = stepH (ofHi ((ints s.data.toList).take k)) b := fun k b hb => by
    unfold ofHi
    rw [List.take_add_one, hb, List.foldl_append]
    rfl
  have HT := hide hT
  obtain ⟨F, hF⟩ : ∃ F : Nat → Int, F = fun k => ofHi ((ints s.data.toList).take k) := ⟨_, rfl⟩
  have hT2 : ∀ k b, (ints s.data.toList)[k]? = some b → F (k + 1) = stepH (F k) b := by rw [hF]; exact hT
  have hF0 : F 0 = 0 := by rw [hF]; rfl
  have hFe : F s.size = ofHi (ints s.data.toList) := by rw [hF]; show ofHi ((ints s.data.toList).take s.size) = _; rw [List.take_of_length_le (by omega)]
  have HF := hide (And.intro hT2 (And.intro hF0 hFe))
  generalize ofHi (ints s.data.toList) = R at HF ⊢
  clear hRd hB hL hT HT hT2 hF0 hFe hF
  go_enter Tryz.func69, Tryz.ntmps69
  go_wp2
  go_loopw [3, 9] (fun v3 v9 wr => ∃ k : Nat, k ≤ s.size ∧ v3 = .int .i64 (F k) ∧ v9 = .int .i64 (k : Int) ∧ wr = W') (fun _ v9 _ => (s.size - intOf v9).toNat)
  case atStart => exact ⟨0, by omega, by rw [HF.out.2.1], rfl, rfl⟩
  case round =>
    obtain ⟨k, hk, rfl, rfl, rfl⟩ := hrel
    by_cases hc : k < s.size
    · have z1 : (k : Int) < (s.size : Int) := by omega
      obtain ⟨b, hb⟩ : ∃ b, (ints s.data.toList)[k]? = some b := ⟨_, List.getElem?_eq_getElem (by rw [HL.out]; omega)⟩
      obtain ⟨ab, off, he, hcl⟩ := H.out.1.at hb
      cases he
      rw [Nat.zero_add] at hcl
      have HN := hide (HF.out.1 k b hb)
      have hb0 : 0 ≤ b ∧ b < 256 := by
        unfold ints at hb
        rw [List.getElem?_map] at hb
        obtain ⟨u, _, rfl⟩ := Option.map_eq_some_iff.1 hb
        have := u.toNat_lt
        omega
      clear hb
      have wb : IntKind.i64.wrap b = b := by rw [IntKind.wrap_i64]; omega
      go_wp2
      exact ⟨⟨k + 1, by omega, by rw [HN.out]; rfl, by simp, trivial⟩, by simp only [intOf]; omega⟩
    · have z1 : ¬ (k : Int) < (s.size : Int) := by omega
      go_wp2
      go_ret
      obtain rfl : k = s.size := by omega
      exact ⟨by rw [← HF.out.2.2]; rfl, H.out.2⟩

def okG (s : ByteArray) : Int := ofHi (ints (s.extract 0 8).data.toList)
def okR (s : ByteArray) : Int := ((s.data.toList.getD 8 0).toNat : Int)
def okL (s : ByteArray) : ByteArray := s.extract 9 (s.size - 10)
def okN (s : ByteArray) : Int := ofHi (ints (s.extract (s.size - 9) (s.size - 1)).data.toList)
def okX (s : ByteArray) : Int := ((s.data.toList.getD (s.size - 1) 0).toNat : Int)
/-- Whether a text is a stamp's key, and the stamp. -/
def okV (s : ByteArray) : Bool := decide (19 ≤ s.size) && (stampV (okG s) (okR s) (okL s) (okN s) (okX s) && decide (keyS (okG s) (okR s) (okL s) (okN s) (okX s) = s))
def kG (s : ByteArray) : Int := if okV s then okG s else 0
def kR (s : ByteArray) : Int := if okV s then okR s else 0
def kL (s : ByteArray) : ByteArray := if okV s then okL s else ⟨#[]⟩
def kN (s : ByteArray) : Int := if okV s then okN s else 0
def kX (s : ByteArray) : Int := if okV s then okX s else 0
theorem at_getD (s : ByteArray) (k : Nat) (h : k < s.size) : s[k]'h = s.data.toList.getD k 0 := by
  have h' : k < s.data.toList.length := by rw [← Lib.size_eq s]; exact h
  rw [List.getD_eq_getElem?_getD, List.getElem?_eq_getElem h']
  rfl
theorem ext_size (s : ByteArray) (a b : Nat) (h : b ≤ s.size) : (s.extract a b).size ≤ s.size := by
  rw [ByteArray.size_extract]; omega
theorem set5_other {w : World} {R b : Nat} {k : Nat} {x y z u v : Value} (h : R ≠ b) : (((((w.setCell ⟨R, 0, none⟩ x).setCell ⟨R, 1, none⟩ y).setCell ⟨R, 2, none⟩ z).setCell ⟨R, 3, none⟩ u).setCell ⟨R, 4, none⟩ v).cell? ⟨b, k, none⟩ = w.cell? ⟨b, k, none⟩ := by
  refine World.cell?_of_block ?_
  rw [Below.heap_setCell _ _ _ _ (Ne.symm h), Below.heap_setCell _ _ _ _ (Ne.symm h), Below.heap_setCell _ _ _ _ (Ne.symm h), Below.heap_setCell _ _ _ _ (Ne.symm h), Below.heap_setCell _ _ _ _ (Ne.symm h)]
theorem exec_alloc23 {ev : Operand → Value} {T : TypeId} {w : World} :
    (execOp ev { dst := none, op := .alloc 23, type := T, pos := "", after := #[], guard := none }).run Tryz.prog w = .ok (.value (.pointer (some ⟨w.heap.size, 0, none⟩))) (w.alloc (.cells #[.int .i64 0, .string ⟨#[]⟩] 23)) := by
  unfold execOp
  go_simp
theorem exec_alloc25 {ev : Operand → Value} {T : TypeId} {w : World} :
    (execOp ev { dst := none, op := .alloc 25, type := T, pos := "", after := #[], guard := none }).run Tryz.prog w = .ok (.value (.pointer (some ⟨w.heap.size, 0, none⟩))) (w.alloc (.cells #[.int .i64 0, .string ⟨#[]⟩, .int .i64 0] 25)) := by
  unfold execOp
  go_simp
set_option maxHeartbeats 2000000 in
set_option maxRecDepth 100000 in
theorem ofKey_any (s : ByteArray) (w : World) (hs : s.size ≤ 9223372036854775807) : Calls Tryz.prog 42 #[.string s] w fun e w' => e = .returned (.tuple #[sv (kG s) (kR s) (kL s) (kN s) (kX s), .int .i64 (if okV s then 0 else 4)]) ∧ Below w.heap.size w w' := by
  have hb := below_new w (.cells #[.int .i64 0, .int .i64 0, .string ⟨#[]⟩, .int .i64 0, .int .i64 0] 27)
  have hnw := heap_alloc_new w (.cells #[.int .i64 0, .int .i64 0, .string ⟨#[]⟩, .int .i64 0, .int .i64 0] 27)
  by_cases h19 : s.size < 19
  · have hV : okV s = false := by unfold okV; rw [show decide (19 ≤ s.size) = false by simp; omega, Bool.false_and]
    unfold kG kR kL kN kX
    rw [hV]
    have z1 : (s.size : Int) < 19 := by omega
    obtain ⟨y0, y1, y2, y3, y4, f0, f1, f2, f3, f4⟩ := blk5 hnw
    go_enter Tryz.func42, Tryz.ntmps42
    go_wp2
    refine ret_row_tmp w.heap.size [.int .i64 0, .int .i64 0, .string ⟨#[]⟩, .int .i64 0, .int .i64 0] rfl rfl rfl Tryz.underlying27 rfl (by kernel_rfl) (t := 27) (fr := (0, 0)) ?_ rfl ?_
    · first | exact hnw | exact set5 hnw
    · first | exact ⟨rfl, hb⟩ | exact ⟨rfl, bel5 (Nat.le_refl _) hb⟩
  · obtain ⟨A, hA⟩ : ∃ A : Nat, A = s.size - 10 := ⟨_, rfl⟩
    obtain ⟨T, hT⟩ : ∃ T : Nat, T = s.size - 1 := ⟨_, rfl⟩
    have h98 : ∀ (t : ByteArray) W, t.size ≤ 100 → Calls Tryz.prog 69 #[.string t] W fun e w' => e = .returned (.int .i64 (ofHi (ints t.data.toList))) ∧ Below W.heap.size W w' := fun t W h => ofHighest_any t W (by omega)
    have hg := fun W => h98 (s.extract 0 8) W (by rw [ByteArray.size_extract]; omega)
    have hn := fun W => h98 (s.extract (A + 1) T) W (by rw [ByteArray.size_extract]; omega)
    obtain ⟨X8, hX8, u0, u1, ix8⟩ := at_string s 8 (by omega)
    obtain ⟨XT, hXT, v0, v1, ixT⟩ := at_string s T (by omega)
    have ix8' : ∀ W, (Instr.index 9 (.string s) (.int .i64 8)).run Tryz.prog W = .ok (.int .u8 X8) W := ix8
    rw [at_getD] at hX8 hXT
    have hm : ∀ W, Calls Tryz.prog 70 #[sv (okG s) X8 (s.extract 9 A) (okN s) XT, .string s, .func (.func 20) #[] #[]] W fun e w' => e = .returned (.tuple #[sv (kG s) (kR s) (kL s) (kN s) (kX s), .int .i64 (if okV s then 0 else 4)]) ∧ Below W.heap.size W w' := fun W => by
      have e1 : X8 = okR s := hX8
      have e2 : XT = okX s := by rw [hXT, hT]; rfl
      have e3 : s.extract 9 A = okL s := by rw [hA]; rfl
      rw [e1, e2, e3]
      refine (meant16_any (okG s) (okR s) (okL s) (okN s) (okX s) s _ _ W (by split <;> simp) (fun W' h' => key_any _ _ _ _ _ W')).mono ?_
      rintro e w' ⟨rfl, hb⟩
      refine ⟨?_, hb⟩
      simp only [meant_iff]
      rw [show (stampV (okG s) (okR s) (okL s) (okN s) (okX s) && decide (keyS (okG s) (okR s) (okL s) (okN s) (okX s) = s)) = okV s by unfold okV; rw [show decide (19 ≤ s.size) = true by simp; omega, Bool.true_and]]
      unfold kG kR kL kN kX
      cases okV s <;> rfl
    rw [show ofHi (ints (s.extract 0 8).data.toList) = okG s from rfl] at hg
    rw [show ofHi (ints (s.extract (A + 1) T).data.toList) = okN s by unfold okN; rw [show A + 1 = s.size - 9 by omega, hT]] at hn
    generalize (if okV s then (0 : Int) else 4) = E at hm ⊢
    generalize kG s = G' at hm ⊢
    generalize kR s = R' at hm ⊢
    generalize kL s = L' at hm ⊢
    generalize kN s = N' at hm ⊢
    generalize kX s = X' at hm ⊢
    generalize okG s = OG at hm hg
    generalize okN s = ON at hm hn
    have z1 : ¬ (s.size : Int) < 19 := by omega
    have q1 : (s.size : Int) - 10 = (A : Int) := by omega
    have q2 : (s.size : Int) - 1 = (T : Int) := by omega
    have a1 : 9 ≤ A := by omega
    have a2 : A ≤ s.size := by omega
    have a3 : A + 1 ≤ T := by omega
    have a4 : T ≤ s.size := by omega
    have i1 : (9 : Int) ≤ (A : Int) := by omega
    have i2 : (A : Int) ≤ (s.size : Int) := by omega
    have i3 : (A : Int) + 1 ≤ (T : Int) := by omega
    have i4 : (T : Int) ≤ (s.size : Int) := by omega
    have i5 : (8 : Int) ≤ (s.size : Int) := by omega
    have i7 : (0 : Int) ≤ (A : Int) + 1 := by omega
    have i6 : 8 ≤ s.size := by omega
    have w8 : IntKind.i64.wrap X8 = X8 := by rw [IntKind.wrap_i64]; omega
    have wT : IntKind.i64.wrap XT = XT := by rw [IntKind.wrap_i64]; omega
    have HA := hide (And.intro hA hT)
    clear hA hT hX8 hXT ix8 h98
    go_enter Tryz.func42, Tryz.ntmps42
    go_wp2
    generalize hW0 : (w.alloc (.cells #[.int .i64 0, .int .i64 0, .string ⟨#[]⟩, .int .i64 0, .int .i64 0] 27)) = W0 at hb hnw ⊢
    have hs0 : w.heap.size + 1 ≤ W0.heap.size := by rw [← hW0]; simp
    have hd0 : w.heap.size + 1 ≤ W0.drew.heap.size := hs0
    have hB0 : Below w.heap.size w W0.drew := hb.drew
    have hQ0 : Below (w.heap.size + 1) W0 W0.drew := (Below.refl _ W0).drew
    clear hW0 hb
    refine wp_region_held_drew (S := (fun _ => True)) (by kernel_rfl) trivial (fun hHeld => ?_)
    try dsimp only at hHeld
    refine take_op (i := 0) (d := 21) (OP := Op.move (Operand.tmp 0)) (T := 9) (v := ?vy1x) rfl rfl rfl rfl (by kernel_rfl) (by kernel_rfl) (by kernel_rfl) (fun _ _ _ h => h) (by rfl) ?hy1x hHeld ?ry1x
    case hy1x => (intro w' hSw; (try dsimp only at hSw); go_simp <;> with_reducible rfl)
    try simp only [Act.put, sI, sZ, sS]
    refine take_op (i := 1) (d := 22) (OP := Op.index 9 (Operand.tmp 21) (Operand.const (Value.int IntKind.i64 8))) (T := 5) (v := ?vy2x) rfl rfl rfl rfl (by kernel_rfl) (by kernel_rfl) (by kernel_rfl) (fun _ _ _ h => h) (by rfl) ?hy2x hHeld ?ry2x
    case hy2x => (intro w' hSw; (try dsimp only at hSw); go_simp <;> with_reducible rfl)
    try simp only [Act.put, sI, sZ, sS]
    refine take_op (i := 2) (d := 23) (OP := Op.convert 5 3 (Operand.tmp 22)) (T := 3) (v := ?vy3x) rfl rfl rfl rfl (by kernel_rfl) (by kernel_rfl) (by kernel_rfl) (fun _ _ _ h => h) (by rfl) ?hy3x hHeld ?ry3x
    case hy3x => (intro w' hSw; (try dsimp only at hSw); go_simp <;> with_reducible rfl)
    try simp only [Act.put, sI, sZ, sS]
    refine take_op (i := 3) (d := 24) (OP := Op.move (Operand.tmp 0)) (T := 9) (v := ?vy4x) rfl rfl rfl rfl (by kernel_rfl) (by kernel_rfl) (by kernel_rfl) (fun _ _ _ h => h) (by rfl) ?hy4x hHeld ?ry4x
    case hy4x => (intro w' hSw; (try dsimp only at hSw); go_simp <;> with_reducible rfl)
    try simp only [Act.put, sI, sZ, sS]
    refine take_op (i := 4) (d := 25) (OP := Op.move (Operand.tmp 4)) (T := 3) (v := ?vy5x) rfl rfl rfl rfl (by kernel_rfl) (by kernel_rfl) (by kernel_rfl) (fun _ _ _ h => h) (by rfl) ?hy5x hHeld ?ry5x
    case hy5x => (intro w' hSw; (try dsimp only at hSw); go_simp <;> with_reducible rfl)
    try simp only [Act.put, sI, sZ, sS]
    refine take_op (i := 5) (d := 26) (OP := Op.slice 9 (Operand.tmp 24) (some (Operand.const (Value.int IntKind.i64 9))) (some (Operand.tmp 25)) none) (T := 9) (v := ?vy6x) rfl rfl rfl rfl (by kernel_rfl) (by kernel_rfl) (by kernel_rfl) (fun _ _ _ h => h) (by rfl) ?hy6x hHeld ?ry6x
    case hy6x => (intro w' hSw; (try dsimp only at hSw); go_simp <;> with_reducible rfl)
    try simp only [Act.put, sI, sZ, sS]
    refine take_op (i := 6) (d := 27) (OP := Op.build 23 #[(0, Operand.tmp 23), (1, Operand.tmp 26)]) (T := 23) (v := ?vy7x) rfl rfl rfl rfl (by kernel_rfl) (by kernel_rfl) (by kernel_rfl) (fun _ _ _ h => h) (by rfl) ?hy7x hHeld ?ry7x
    case hy7x => (intro w' hSw; (try dsimp only at hSw); go_simp <;> with_reducible rfl)
    try simp only [Act.put, sI, sZ, sS]
    refine turn_op (i := 7) (d := 7) (OP := Op.alloc 23) (T := 0) (v := .pointer (some ⟨W0.heap.size, 0, none⟩)) (w' := W0.drew.alloc (.cells #[.int .i64 0, .string ⟨#[]⟩] 23)) rfl rfl rfl rfl (by kernel_rfl) (by rfl) (exec_alloc23) trivial ?_
    replace hHeld := trivial
    try simp only [Act.put, sI, sZ, sS]
    refine skip_op (i := 8) (OP := Op.store 23 (Operand.tmp 7) (Operand.tmp 27)) (T := 0) (w' := W0.drew.alloc (.cells #[.int .i64 X8, .string (s.extract 9 A)] 23)) rfl rfl rfl rfl (by kernel_rfl) (by rfl) (exec_store_new (cs := [.int .i64 X8, .string (s.extract 9 A)]) rfl rfl rfl (by kernel_rfl) rfl (by simp [Value.oneCell'])) ⟨trivial, ?_⟩
    refine wpAnyH_done (by kernel_rfl) ?_ _
    obtain ⟨W1, hW1⟩ : ∃ W1, W1 = W0.drew.alloc (.cells #[.int .i64 X8, .string (s.extract 9 A)] 23) := ⟨_, rfl⟩
    have hn1 := heap_alloc_new W0.drew (.cells #[.int .i64 X8, .string (s.extract 9 A)] 23)
    have hB1 := hB0.alloc hB0.size (.cells #[.int .i64 X8, .string (s.extract 9 A)] 23)
    have hQ1 := hQ0.alloc (by omega) (.cells #[.int .i64 X8, .string (s.extract 9 A)] 23)
    have hs1 : W0.heap.size + 1 ≤ (W0.drew.alloc (.cells #[.int .i64 X8, .string (s.extract 9 A)] 23)).heap.size := by simp
    rw [← hW1] at hn1 hB1 hQ1 hs1
    go_upto_region 6 with fail
    rw [← hW1]
    obtain ⟨y0, y1, _, _⟩ := blk2 hn1
    have hS1 : W1.drew.cell? ⟨W0.heap.size, 0, none⟩ = some (.int .i64 X8) ∧ W1.drew.cell? ⟨W0.heap.size, 1, none⟩ = some (.string (s.extract 9 A)) := ⟨y0, y1⟩
    have hD1 : Below w.heap.size w W1.drew := hB1.drew
    have hQD1 : Below (w.heap.size + 1) W0 W1.drew := hQ1.drew
    clear hB0 hQ0 hn1 hB1 hQ1 y0 y1 hW1
    go_cut [8] from 28 to 34 (fun v8 wq => ∃ P5, v8 = .pointer (some ⟨P5, 0, none⟩) ∧ Hid (w.heap.size + 1 ≤ P5 ∧ wq.heap[P5]? = some (.cells #[.int .i64 X8, .string (s.extract 9 A), .int .i64 ON] 25 (0, 0)) ∧ Below w.heap.size w wq ∧ Below (w.heap.size + 1) W0 wq ∧ w.heap.size + 1 ≤ wq.heap.size))
    case first =>
      refine wp_region_held_drew (S := (fun w' => w'.cell? ⟨W0.heap.size, 0, none⟩ = some (.int .i64 X8) ∧ w'.cell? ⟨W0.heap.size, 1, none⟩ = some (.string (s.extract 9 A)))) (by kernel_rfl) (by exact hS1) (fun hHeld => ?_)
      try dsimp only at hHeld
      refine take_op (i := 0) (d := 28) (OP := Op.load 23 (Operand.tmp 7)) (T := 23) (v := ?vy8x) rfl rfl rfl rfl (by kernel_rfl) (by kernel_rfl) (by kernel_rfl) (fun _ _ _ h => h) (by rfl) ?hy8x hHeld ?ry8x
      case hy8x => (intro w' hSw; (try dsimp only at hSw); go_simp <;> with_reducible rfl)
      try simp only [Act.put, sI, sZ, sS]
      refine take_op (i := 1) (d := 29) (OP := Op.move (Operand.tmp 0)) (T := 9) (v := ?vy9x) rfl rfl rfl rfl (by kernel_rfl) (by kernel_rfl) (by kernel_rfl) (fun _ _ _ h => h) (by rfl) ?hy9x hHeld ?ry9x
      case hy9x => (intro w' hSw; (try dsimp only at hSw); go_simp <;> with_reducible rfl)
      try simp only [Act.put, sI, sZ, sS]
      refine take_op (i := 2) (d := 30) (OP := Op.move (Operand.tmp 5)) (T := 3) (v := ?vy10x) rfl rfl rfl rfl (by kernel_rfl) (by kernel_rfl) (by kernel_rfl) (fun _ _ _ h => h) (by rfl) ?hy10x hHeld ?ry10x
      case hy10x => (intro w' hSw; (try dsimp only at hSw); go_simp <;> with_reducible rfl)
      try simp only [Act.put, sI, sZ, sS]
      refine take_op (i := 3) (d := 31) (OP := Op.move (Operand.tmp 6)) (T := 3) (v := ?vy11x) rfl rfl rfl rfl (by kernel_rfl) (by kernel_rfl) (by kernel_rfl) (fun _ _ _ h => h) (by rfl) ?hy11x hHeld ?ry11x
      case hy11x => (intro w' hSw; (try dsimp only at hSw); go_simp <;> with_reducible rfl)
      try simp only [Act.put, sI, sZ, sS]
      refine take_op (i := 4) (d := 32) (OP := Op.slice 9 (Operand.tmp 29) (some (Operand.tmp 30)) (some (Operand.tmp 31)) none) (T := 9) (v := ?vy12x) rfl rfl rfl rfl (by kernel_rfl) (by kernel_rfl) (by kernel_rfl) (fun _ _ _ h => h) (by rfl) ?hy12x hHeld ?ry12x
      case hy12x => (intro w' hSw; (try dsimp only at hSw); go_simp <;> with_reducible rfl)
      try simp only [Act.put, sI, sZ, sS]
      refine call_turn_op (i := 5) (di := 33) (OPi := Op.call { callee := Callee.value (Operand.func 69), args := #[Operand.tmp 32], argTypes := #[9] }) (Ti := 2) (j := 7) (dj := 8) (OPj := Op.alloc 25) (Tj := 0) (f := 69) (args := #[.string (s.extract (A + 1) T)]) (u := .pointer (some ⟨W1.heap.size, 0, none⟩)) (w' := W1.drew.alloc (.cells #[.int .i64 0, .string ⟨#[]⟩, .int .i64 0] 25)) rfl rfl rfl rfl rfl rfl rfl rfl (by kernel_rfl) (by rfl) (by rfl) (by go_simp) exec_alloc25 (And.intro (kept (below_new W1.drew (.cells #[.int .i64 0, .string ⟨#[]⟩, .int .i64 0] 25)) hHeld.1) (kept (below_new W1.drew (.cells #[.int .i64 0, .string ⟨#[]⟩, .int .i64 0] 25)) hHeld.2)) ?_ ?_
      · refine (hn _).mono ?_
        rintro e w5 ⟨rfl, b5⟩
        have hS5 := (And.intro (kept b5 hHeld.1) (kept b5 hHeld.2))
        have hD5 := hD1.trans (b5.mono hD1.size)
        have s5 : W1.heap.size ≤ w5.heap.size := b5.size
        have hQ5 := hQD1.trans (b5.mono (by show w.heap.size + 1 ≤ W1.heap.size; omega))
        refine ⟨_, rfl, hS5, ?_⟩
        replace hHeld := hS5
        try simp only [Act.put, sI, sZ, sS]
        refine take_op (i := 6) (d := 34) (OP := Op.build 25 #[(0, Operand.tmp 28), (1, Operand.tmp 33)]) (T := 25) (v := ?vy13x) rfl rfl rfl rfl (by kernel_rfl) (by kernel_rfl) (by kernel_rfl) (fun _ _ _ h => h) (by rfl) ?hy13x hHeld ?ry13x
        case hy13x => (intro w' hSw; (try dsimp only at hSw); go_simp <;> with_reducible rfl)
        try simp only [Act.put, sI, sZ, sS]
        refine turn_op (i := 7) (d := 8) (OP := Op.alloc 25) (T := 0) (v := .pointer (some ⟨w5.heap.size, 0, none⟩)) (w' := w5.alloc (.cells #[.int .i64 0, .string ⟨#[]⟩, .int .i64 0] 25)) rfl rfl rfl rfl (by kernel_rfl) (by rfl) (exec_alloc25) (And.intro (kept (below_new w5 (.cells #[.int .i64 0, .string ⟨#[]⟩, .int .i64 0] 25)) hHeld.1) (kept (below_new w5 (.cells #[.int .i64 0, .string ⟨#[]⟩, .int .i64 0] 25)) hHeld.2)) ?_
        replace hHeld := (And.intro (kept (below_new w5 (.cells #[.int .i64 0, .string ⟨#[]⟩, .int .i64 0] 25)) hHeld.1) (kept (below_new w5 (.cells #[.int .i64 0, .string ⟨#[]⟩, .int .i64 0] 25)) hHeld.2))
        try simp only [Act.put, sI, sZ, sS]
        refine skip_op (i := 8) (OP := Op.store 25 (Operand.tmp 8) (Operand.tmp 34)) (T := 0) (w' := w5.alloc (.cells #[.int .i64 X8, .string (s.extract 9 A), .int .i64 ON] 25)) rfl rfl rfl rfl (by kernel_rfl) (by rfl) (exec_store_new (cs := [.int .i64 X8, .string (s.extract 9 A), .int .i64 ON]) rfl rfl rfl (by kernel_rfl) rfl (by simp [Value.oneCell'])) ⟨(And.intro (kept (below_new w5 (.cells #[.int .i64 X8, .string (s.extract 9 A), .int .i64 ON] 25)) hS5.1) (kept (below_new w5 (.cells #[.int .i64 X8, .string (s.extract 9 A), .int .i64 ON] 25)) hS5.2)), ?_⟩
        refine wpAnyH_done (by kernel_rfl) ?_ _
        go_wp2
        go_meet
        exact ⟨w5.heap.size, rfl, hide ⟨by omega, heap_alloc_new w5 (.cells #[.int .i64 X8, .string (s.extract 9 A), .int .i64 ON] 25), hD5.alloc hD5.size _, hQ5.alloc (by omega) _, by simp; omega⟩⟩
      · try simp only [Act.put, sI, sZ, sS]
        replace hHeld : (W1.drew.alloc (.cells #[.int .i64 0, .string ⟨#[]⟩, .int .i64 0] 25)).cell? ⟨W0.heap.size, 0, none⟩ = some (.int .i64 X8) ∧ (W1.drew.alloc (.cells #[.int .i64 0, .string ⟨#[]⟩, .int .i64 0] 25)).cell? ⟨W0.heap.size, 1, none⟩ = some (.string (s.extract 9 A)) := (And.intro (kept (below_new W1.drew (.cells #[.int .i64 0, .string ⟨#[]⟩, .int .i64 0] 25)) hHeld.1) (kept (below_new W1.drew (.cells #[.int .i64 0, .string ⟨#[]⟩, .int .i64 0] 25)) hHeld.2))
        have m5 := heap_alloc_new W1.drew (.cells #[.int .i64 0, .string ⟨#[]⟩, .int .i64 0] 25)
        have hB5 : Below w.heap.size w (W1.drew.alloc (.cells #[.int .i64 0, .string ⟨#[]⟩, .int .i64 0] 25)) := hD1.alloc hD1.size _
        have hQ5 : Below (w.heap.size + 1) W0 (W1.drew.alloc (.cells #[.int .i64 0, .string ⟨#[]⟩, .int .i64 0] 25)) := hQD1.alloc (by show w.heap.size + 1 ≤ W1.heap.size; omega) _
        have s5 : W1.heap.size + 1 ≤ (W1.drew.alloc (.cells #[.int .i64 0, .string ⟨#[]⟩, .int .i64 0] 25)).heap.size := by simp
        generalize hW5 : W1.drew.alloc (.cells #[.int .i64 0, .string ⟨#[]⟩, .int .i64 0] 25) = W5 at hHeld m5 hB5 hQ5 s5 ⊢
        clear hW5
        refine call_op (i := 5) (d := 33) (OP := Op.call { callee := Callee.value (Operand.func 69), args := #[Operand.tmp 32], argTypes := #[9] }) (T := 2) (f := 69) (args := #[.string (s.extract (A + 1) T)]) rfl rfl rfl rfl (by kernel_rfl) (by rfl) (by go_simp) ?_
        refine (hn _).mono ?_
        rintro e w6 ⟨rfl, b6⟩
        have hS6 := (And.intro (kept b6 hHeld.1) (kept b6 hHeld.2))
        have hD6 := hB5.trans (b6.mono hB5.size)
        have s6 := b6.size
        have hQ6 := hQ5.trans (b6.mono (by omega))
        have m6 : w6.heap[W1.heap.size]? = some (.cells #[.int .i64 0, .string ⟨#[]⟩, .int .i64 0] 25 (0, 0)) := (b6.block _ (by omega)).trans m5
        obtain ⟨z0, z1', z2, zf0, zf1, zf2⟩ := blk3 m6
        refine ⟨_, rfl, hS6, ?_⟩
        replace hHeld := hS6
        try simp only [Act.put, sI, sZ, sS]
        refine take_op (i := 6) (d := 34) (OP := Op.build 25 #[(0, Operand.tmp 28), (1, Operand.tmp 33)]) (T := 25) (v := ?vy14x) rfl rfl rfl rfl (by kernel_rfl) (by kernel_rfl) (by kernel_rfl) (fun _ _ _ h => h) (by rfl) ?hy14x hHeld ?ry14x
        case hy14x => (intro w' hSw; (try dsimp only at hSw); go_simp <;> with_reducible rfl)
        try simp only [Act.put, sI, sZ, sS]
        have hx8 : (((w6.setCell ⟨W1.heap.size, 0, none⟩ (.int .i64 X8)).setCell ⟨W1.heap.size, 1, none⟩ (.string (s.extract 9 A))).setCell ⟨W1.heap.size, 2, none⟩ (.int .i64 ON)).cell? ⟨W0.heap.size, 0, none⟩ = some (.int .i64 X8) ∧ (((w6.setCell ⟨W1.heap.size, 0, none⟩ (.int .i64 X8)).setCell ⟨W1.heap.size, 1, none⟩ (.string (s.extract 9 A))).setCell ⟨W1.heap.size, 2, none⟩ (.int .i64 ON)).cell? ⟨W0.heap.size, 1, none⟩ = some (.string (s.extract 9 A)) := by
          have hne : W1.heap.size ≠ W0.heap.size := by omega
          exact ⟨by rw [set3_other hne]; exact hHeld.1, by rw [set3_other hne]; exact hHeld.2⟩
        refine skip_op (i := 8) (OP := Op.store 25 (Operand.tmp 8) (Operand.tmp 34)) (T := 0) (w' := (((w6.setCell ⟨W1.heap.size, 0, none⟩ (.int .i64 X8)).setCell ⟨W1.heap.size, 1, none⟩ (.string (s.extract 9 A))).setCell ⟨W1.heap.size, 2, none⟩ (.int .i64 ON))) rfl rfl rfl rfl (by kernel_rfl) (by rfl) (by go_simp) ⟨hx8, ?_⟩
        refine wpAnyH_done (by kernel_rfl) ?_ _
        go_wp2
        go_meet
        exact ⟨W1.heap.size, rfl, hide ⟨by omega, set3 m6, bel3 (by omega) hD6, bel3 (by omega) hQ6, by simp [World.setCell]; omega⟩⟩
    case rest =>
      obtain ⟨P5, rfl, HC⟩ := hcut
      obtain ⟨c1, hn2, hB2, hQ2, hs2⟩ := HC.out
      clear hS1 hD1 hQD1 HC
      obtain ⟨y0, y1, y2, _, _, _⟩ := blk3 hn2
      have hS2 : wc.drew.cell? ⟨P5, 0, none⟩ = some (.int .i64 X8) ∧ wc.drew.cell? ⟨P5, 1, none⟩ = some (.string (s.extract 9 A)) ∧ wc.drew.cell? ⟨P5, 2, none⟩ = some (.int .i64 ON) := ⟨y0, y1, y2⟩
      have hD2 : Below w.heap.size w wc.drew := hB2.drew
      have hQD2 : Below (w.heap.size + 1) W0 wc.drew := hQ2.drew
      clear hn2 hB2 hQ2 y0 y1 y2
      go_wp2
      refine wp_region_held_drew (S := (fun w' => w'.cell? ⟨P5, 0, none⟩ = some (.int .i64 X8) ∧ w'.cell? ⟨P5, 1, none⟩ = some (.string (s.extract 9 A)) ∧ w'.cell? ⟨P5, 2, none⟩ = some (.int .i64 ON))) (by kernel_rfl) (by exact hS2) (fun hHeld => ?_)
      try dsimp only at hHeld
      refine take_op (i := 0) (d := 35) (OP := Op.move (Operand.tmp 0)) (T := 9) (v := ?vy15x) rfl rfl rfl rfl (by kernel_rfl) (by kernel_rfl) (by kernel_rfl) (fun _ _ _ h => h) (by rfl) ?hy15x hHeld ?ry15x
      case hy15x => (intro w' hSw; (try dsimp only at hSw); go_simp <;> with_reducible rfl)
      try simp only [Act.put, sI, sZ, sS]
      refine take_op (i := 1) (d := 36) (OP := Op.slice 9 (Operand.tmp 35) none (some (Operand.const (Value.int IntKind.i64 8))) none) (T := 9) (v := ?vy16x) rfl rfl rfl rfl (by kernel_rfl) (by kernel_rfl) (by kernel_rfl) (fun _ _ _ h => h) (by rfl) ?hy16x hHeld ?ry16x
      case hy16x => (intro w' hSw; (try dsimp only at hSw); go_simp <;> with_reducible rfl)
      try simp only [Act.put, sI, sZ, sS]
      refine take_op (i := 3) (d := 38) (OP := Op.load 25 (Operand.tmp 8)) (T := 25) (v := ?vy17x) rfl rfl rfl rfl (by kernel_rfl) (by kernel_rfl) (by kernel_rfl) (fun _ _ _ h => h) (by rfl) ?hy17x hHeld ?ry17x
      case hy17x => (intro w' hSw; (try dsimp only at hSw); go_simp <;> with_reducible rfl)
      try simp only [Act.put, sI, sZ, sS]
      refine take_op (i := 4) (d := 39) (OP := Op.move (Operand.tmp 0)) (T := 9) (v := ?vy18x) rfl rfl rfl rfl (by kernel_rfl) (by kernel_rfl) (by kernel_rfl) (fun _ _ _ h => h) (by rfl) ?hy18x hHeld ?ry18x
      case hy18x => (intro w' hSw; (try dsimp only at hSw); go_simp <;> with_reducible rfl)
      try simp only [Act.put, sI, sZ, sS]
      refine take_op (i := 5) (d := 40) (OP := Op.move (Operand.tmp 6)) (T := 3) (v := ?vy19x) rfl rfl rfl rfl (by kernel_rfl) (by kernel_rfl) (by kernel_rfl) (fun _ _ _ h => h) (by rfl) ?hy19x hHeld ?ry19x
      case hy19x => (intro w' hSw; (try dsimp only at hSw); go_simp <;> with_reducible rfl)
      try simp only [Act.put, sI, sZ, sS]
      refine take_op (i := 6) (d := 41) (OP := Op.index 9 (Operand.tmp 39) (Operand.tmp 40)) (T := 5) (v := ?vy20x) rfl rfl rfl rfl (by kernel_rfl) (by kernel_rfl) (by kernel_rfl) (fun _ _ _ h => h) (by rfl) ?hy20x hHeld ?ry20x
      case hy20x => (intro w' hSw; (try dsimp only at hSw); go_simp <;> with_reducible rfl)
      try simp only [Act.put, sI, sZ, sS]
      refine take_op (i := 7) (d := 42) (OP := Op.convert 5 3 (Operand.tmp 41)) (T := 3) (v := ?vy21x) rfl rfl rfl rfl (by kernel_rfl) (by kernel_rfl) (by kernel_rfl) (fun _ _ _ h => h) (by rfl) ?hy21x hHeld ?ry21x
      case hy21x => (intro w' hSw; (try dsimp only at hSw); go_simp <;> with_reducible rfl)
      try simp only [Act.put, sI, sZ, sS]
      refine take_op (i := 9) (d := 44) (OP := Op.move (Operand.tmp 0)) (T := 9) (v := ?vy22x) rfl rfl rfl rfl (by kernel_rfl) (by kernel_rfl) (by kernel_rfl) (fun _ _ _ h => h) (by rfl) ?hy22x hHeld ?ry22x
      case hy22x => (intro w' hSw; (try dsimp only at hSw); go_simp <;> with_reducible rfl)
      try simp only [Act.put, sI, sZ, sS]
      refine call_op (i := 2) (d := 37) (OP := Op.call { callee := Callee.value (Operand.func 69), args := #[Operand.tmp 36], argTypes := #[9] }) (T := 2) (f := 69) (args := #[.string (s.extract 0 8)]) rfl rfl rfl rfl (by kernel_rfl) (by rfl) (by go_simp) ?_
      refine (hg _).mono ?_
      rintro e w6 ⟨rfl, b6⟩
      have hS6 := (And.intro (kept b6 hHeld.1) (And.intro (kept b6 hHeld.2.1) (kept b6 hHeld.2.2)))
      have hD6 := hD2.trans (b6.mono hD2.size)
      have s6 : wc.heap.size ≤ w6.heap.size := b6.size
      have hQ6 := hQD2.trans (b6.mono (by show w.heap.size + 1 ≤ wc.heap.size; omega))
      refine ⟨_, rfl, hS6, ?_⟩
      replace hHeld := hS6
      try simp only [Act.put, sI, sZ, sS]
      refine take_op (i := 8) (d := 43) (OP := Op.build 27 #[(0, Operand.tmp 37), (1, Operand.tmp 38), (2, Operand.tmp 42)]) (T := 27) (v := ?vy23x) rfl rfl rfl rfl (by kernel_rfl) (by kernel_rfl) (by kernel_rfl) (fun _ _ _ h => h) (by rfl) ?hy23x hHeld ?ry23x
      case hy23x => (intro w' hSw; (try dsimp only at hSw); go_simp <;> with_reducible rfl)
      try simp only [Act.put, sI, sZ, sS]
      refine call_op (i := 10) (d := 45) (OP := Op.call { callee := Callee.value (Operand.func 70), args := #[Operand.tmp 43, Operand.tmp 44, Operand.func 20], argTypes := #[27, 9, 57] }) (T := 88) (f := 70) (args := #[sv OG X8 (s.extract 9 A) ON XT, .string s, .func (.func 20) #[] #[]]) rfl rfl rfl rfl (by kernel_rfl) (by rfl) (by go_simp) ?_
      refine (hm _).mono ?_
      rintro e w7 ⟨rfl, b7⟩
      have hS7 := (And.intro (kept b7 hHeld.1) (And.intro (kept b7 hHeld.2.1) (kept b7 hHeld.2.2)))
      have hD7 := hD6.trans (b7.mono hD6.size)
      have hQ7 := hQ6.trans (b7.mono (by omega))
      have HR := (hQ7.block w.heap.size (by omega)).trans hnw
      obtain ⟨z0, z1', z2, z3, z4, zf0, zf1, zf2, zf3, zf4⟩ := blk5 HR
      refine ⟨_, rfl, hS7, ?_⟩
      replace hHeld := hS7
      try simp only [Act.put, sI, sZ, sS]
      refine take_op (i := 11) (d := 46) (OP := Op.extract (Operand.tmp 45) 0) (T := 27) (v := ?vy24x) rfl rfl rfl rfl (by kernel_rfl) (by kernel_rfl) (by kernel_rfl) (fun _ _ _ h => h) (by rfl) ?hy24x hHeld ?ry24x
      case hy24x => (intro w' hSw; (try dsimp only at hSw); go_simp <;> with_reducible rfl)
      try simp only [Act.put, sI, sZ, sS]
      refine take_op (i := 12) (d := 47) (OP := Op.extract (Operand.tmp 45) 1) (T := 29) (v := ?vy25x) rfl rfl rfl rfl (by kernel_rfl) (by kernel_rfl) (by kernel_rfl) (fun _ _ _ h => h) (by rfl) ?hy25x hHeld ?ry25x
      case hy25x => (intro w' hSw; (try dsimp only at hSw); go_simp <;> with_reducible rfl)
      try simp only [Act.put, sI, sZ, sS]
      have hx8 : (((((w7.setCell ⟨w.heap.size, 0, none⟩ (.int .i64 G')).setCell ⟨w.heap.size, 1, none⟩ (.int .i64 R')).setCell ⟨w.heap.size, 2, none⟩ (.string L')).setCell ⟨w.heap.size, 3, none⟩ (.int .i64 N')).setCell ⟨w.heap.size, 4, none⟩ (.int .i64 X')).cell? ⟨P5, 0, none⟩ = some (.int .i64 X8) ∧ (((((w7.setCell ⟨w.heap.size, 0, none⟩ (.int .i64 G')).setCell ⟨w.heap.size, 1, none⟩ (.int .i64 R')).setCell ⟨w.heap.size, 2, none⟩ (.string L')).setCell ⟨w.heap.size, 3, none⟩ (.int .i64 N')).setCell ⟨w.heap.size, 4, none⟩ (.int .i64 X')).cell? ⟨P5, 1, none⟩ = some (.string (s.extract 9 A)) ∧ (((((w7.setCell ⟨w.heap.size, 0, none⟩ (.int .i64 G')).setCell ⟨w.heap.size, 1, none⟩ (.int .i64 R')).setCell ⟨w.heap.size, 2, none⟩ (.string L')).setCell ⟨w.heap.size, 3, none⟩ (.int .i64 N')).setCell ⟨w.heap.size, 4, none⟩ (.int .i64 X')).cell? ⟨P5, 2, none⟩ = some (.int .i64 ON) := by
        have hne : w.heap.size ≠ P5 := by omega
        exact ⟨by rw [set5_other hne]; exact hHeld.1, by rw [set5_other hne]; exact hHeld.2.1, by rw [set5_other hne]; exact hHeld.2.2⟩
      refine skip_op (i := 13) (OP := Op.store 27 (Operand.tmp 2) (Operand.tmp 46)) (T := 0) (w' := (((((w7.setCell ⟨w.heap.size, 0, none⟩ (.int .i64 G')).setCell ⟨w.heap.size, 1, none⟩ (.int .i64 R')).setCell ⟨w.heap.size, 2, none⟩ (.string L')).setCell ⟨w.heap.size, 3, none⟩ (.int .i64 N')).setCell ⟨w.heap.size, 4, none⟩ (.int .i64 X'))) rfl rfl rfl rfl (by kernel_rfl) (by rfl) (by go_simp) ⟨hx8, ?_⟩
      replace hHeld := hx8
      refine take_op (i := 14) (d := 3) (OP := Op.assign (Operand.tmp 47)) (T := 29) (v := ?vy26x) rfl rfl rfl rfl (by kernel_rfl) (by kernel_rfl) (by kernel_rfl) (fun _ _ _ h => h) (by rfl) ?hy26x hHeld ?ry26x
      case hy26x => (intro w' hSw; (try dsimp only at hSw); go_simp <;> with_reducible rfl)
      try simp only [Act.put, sI, sZ, sS]
      refine wpAnyH_done (by kernel_rfl) ?_ _
      go_wp2
      refine ret_row_tmp w.heap.size [.int .i64 G', .int .i64 R', .string L', .int .i64 N', .int .i64 X'] rfl rfl rfl Tryz.underlying27 rfl (by kernel_rfl) (t := 27) (fr := (0, 0)) (set5 HR) rfl ?_
      exact ⟨rfl, bel5 (Nat.le_refl _) hD7⟩
end Go.Proofs.YtkkpdgfllnbigaaGreatDoor
namespace Go.Proofs.YtkkpdgfllnbigaaGreatDoor
open Go.RowKit Go.Shelf Go.Sort
set_option linter.unusedSimpArgs false

abbrev El := St × ByteArray
def encE (x : El) : List Value := [.int .i64 x.1.1, .int .i64 x.1.2.1, .string x.1.2.2.1, .int .i64 x.1.2.2.2.1, .int .i64 x.1.2.2.2.2, .string x.2]
abbrev svT (s : St) : Value := .agg #[.int .i64 s.1, .int .i64 s.2.1, .string s.2.2.1, .int .i64 s.2.2.2.1, .int .i64 s.2.2.2.2]
abbrev ev (x : El) : Value := .agg #[.int .i64 x.1.1, .int .i64 x.1.2.1, .string x.1.2.2.1, .int .i64 x.1.2.2.2.1, .int .i64 x.1.2.2.2.2, .string x.2]
def flatE (l : List El) : List Value := l.flatMap encE
theorem flatE_nil : flatE [] = [] := rfl
theorem flatE_cons (x : El) (l : List El) : flatE (x :: l) = encE x ++ flatE l := rfl
theorem flatE_app (l m : List El) : flatE (l ++ m) = flatE l ++ flatE m := by simp [flatE]
theorem flatE_len : ∀ l : List El, (flatE l).length = l.length * 6
  | [] => rfl
  | x :: l => by rw [flatE_cons, List.length_append, flatE_len l, List.length_cons]; simp [encE]; omega
theorem flatE_get : ∀ (l : List El) (k j : Nat) (x : El), l[k]? = some x → j < 6 → (flatE l)[k * 6 + j]? = (encE x)[j]?
  | [], k, j, x, h, _ => by simp at h
  | y :: l, 0, j, x, h, hj => by
    simp at h; subst h
    rw [flatE_cons, List.getElem?_append_left (by simp [encE]; omega)]
    simp
  | y :: l, k + 1, j, x, h, hj => by
    rw [flatE_cons, List.getElem?_append_right (by simp [encE]; omega)]
    rw [show (k + 1) * 6 + j - (encE y).length = k * 6 + j by simp [encE]; omega]
    exact flatE_get l k j x (by simpa using h) hj
theorem flatE_one (l : List El) (v : Value) (h : v ∈ flatE l) : v.oneCell' = true := by
  simp only [flatE, List.mem_flatMap] at h
  obtain ⟨x, _, hx⟩ := h
  simp [encE] at hx
  rcases hx with rfl | rfl | rfl | rfl | rfl | rfl <;> rfl
/-- Behind this address lie the elements l. -/
def Re0 (w : World) (b off : Nat) (l : List El) : Prop := ∀ j v, (flatE l)[j]? = some v → w.cell? ⟨b, off + j, none⟩ = some v
theorem Re0.at {w : World} {b off : Nat} {l : List El} (h : Re0 w b off l) {k : Nat} {x : El} (hx : l[k]? = some x) : ∀ i v, (encE x)[i]? = some v → w.cell? ⟨b, off + k * 6 + i, none⟩ = some v := fun i v hi => by
  have h6 : i < 6 := by have := (List.getElem?_eq_some_iff.1 hi).1; simpa [encE] using this
  have := h (k * 6 + i) v ((flatE_get l k i x hx h6).trans hi)
  rwa [← Nat.add_assoc] at this
theorem Re0.below {w w' : World} {b off : Nat} {l : List El} {B : Nat} (h : Re0 w b off l) (hb : Below B w w') (hB : b < B) : Re0 w' b off l := fun j v hj => (hb.cell hB).trans (h j v hj)
theorem Re0.take {w : World} {b off : Nat} {l : List El} (h : Re0 w b off l) (n : Nat) : Re0 w b off (l.take n) := fun j v hj => h j v (by
  have : flatE l = flatE (l.take n) ++ flatE (l.drop n) := by rw [← flatE_app, List.take_append_drop]
  rw [this, List.getElem?_append_left (List.getElem?_eq_some_iff.1 hj).1]; exact hj)

/-- The slice value v owns the elements L, in a block from B on. -/
def Oe (w : World) (B : Nat) (v : Value) (L : List El) : Prop := w.ownsRow B 33 6 v L.length (flatE L)
theorem Oe.nil (w : World) (B : Nat) : Oe w B (.slice none 0 0) [] := World.ownsRow_nil _ _ _ _
theorem Oe.re0 {w : World} {B g n cap : Nat} {L : List El} (h : Oe w B (.slice (some ⟨g, 0, none⟩) n cap) L) : Re0 w g 0 L := fun j v hj => by
  have := World.ownsRow.cells h (g := g) rfl j v hj
  rw [add_lit] at this
  exact this
theorem Oe.only {w w' : World} {B : Nat} {v : Value} {L : List El} {D : Nat → Prop} (h : Oe w B v L) (ho : Only D w w') (hv : ∀ k, v.ownBlock = some k → ¬ D k) : Oe w' B v L := ho.row h hv
theorem Oe.below {w w' : World} {B : Nat} {v : Value} {L : List El} (h : Oe w B v L) (hb : Below w.heap.size w w') : Oe w' B v L := h.only (Only.ofBelow hb) (fun _ _ d => d.elim)
theorem Oe.shape {w : World} {B : Nat} {v : Value} {L : List El} (h : Oe w B v L) : (v = .slice none 0 0 ∧ L = []) ∨ ∃ g cap, v = .slice (some ⟨g, 0, none⟩) L.length cap ∧ B ≤ g ∧ g < w.heap.size ∧ L.length ≤ cap := by
  have hlt := World.ownsRow.lt h
  rcases h.2 with ⟨rfl, hn⟩ | ⟨g, cap, cur, rfl, hb, hg, hnc, rest⟩
  · exact .inl ⟨rfl, List.eq_nil_of_length_eq_zero hn⟩
  · exact .inr ⟨g, cap, rfl, hb, (hlt g rfl).2, hnc⟩

end Go.Proofs.YtkkpdgfllnbigaaGreatDoor
