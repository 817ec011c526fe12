/-
  The laws' done 36: the walk.
-/
import Derived.Test.YtkdgageljgfgoaaGreatDoorDone9
namespace Go.Proofs.YtkdgageljgfgoaaGreatDoor
open Go.RowKit Go.Shelf
set_option linter.unusedSimpArgs false
attribute [local go_sem] Oper.semAt_some

/-- What done hands back. -/
def DoneE (w : World) (F : Int × Int × List El) (e : Ending) (w' : World) : Prop := ∃ a' c', e = .returned (.tuple #[vv F.1 F.2.1 a' F.2.2.length c', .bool true]) ∧ Rv w' a' c' F.2.2 ∧ Below w.heap.size w w'
/-- Between the rounds: the value's box X, the answer's box X + 1. -/
def DnI (w : World) (F : Int × Int × List El) (a' : Option Addr) (c' : Nat) (wr : World) : Prop := Below w.heap.size w wr ∧ w.heap.size + 2 ≤ wr.heap.size ∧ wr.heap[w.heap.size]? = some (.cells #[.int .i64 F.1, .int .i64 F.2.1, .slice a' F.2.2.length c'] 46 (0, 0)) ∧ wr.heap[w.heap.size + 1]? = some (.cells #[.int .i64 0, .int .i64 0, .slice none 0 0] 46 (0, 0)) ∧ Rv wr a' c' F.2.2 ∧ (F.2.2 ≠ [] → ∀ a, a' = some a → a.block ≠ w.heap.size ∧ a.block ≠ w.heap.size + 1)
theorem Rv.onlyB {w w' : World} {B : Nat} {ao : Option Addr} {c : Nat} {l : List El} (h : Rv w ao c l) (ho : Only (fun j => j = B) w w') (hB : l ≠ [] → ∀ a, ao = some a → a.block ≠ B) : Rv w' ao c l := by
  have := (Nv.only (B0 := 0) ⟨h, fun _ _ => Nat.zero_le _⟩ ho hB).rv
  exact this
theorem DnI.below {w : World} {F : Int × Int × List El} {a' : Option Addr} {c' : Nat} {wr W : World} (h : DnI w F a' c' wr) (hb : Below wr.heap.size wr W) : DnI w F a' c' W :=
  ⟨h.1.trans (hb.mono h.1.size), Nat.le_trans h.2.1 hb.size, (hb.block _ (Array.getElem?_eq_some_iff.1 h.2.2.1).1).trans h.2.2.1, (hb.block _ (Array.getElem?_eq_some_iff.1 h.2.2.2.1).1).trans h.2.2.2.1, h.2.2.2.2.1.below hb, h.2.2.2.2.2⟩

set_option maxHeartbeats 8000000 in
set_option maxRecDepth 100000 in
theorem done_any {w : World} (k n gen : Int) (label : ByteArray) {ao : Option Addr} {c : Nat} {l : List El} {oo : Option Addr} {oc : Nat} {ops : List OpM} (hv : valB k n l = true) (h : Rv w ao c l) (hl : l.length ≤ 1000) (ho : Ro w oo ops) (hol : ops.length ≤ 8796093021952) (hT : Tabs w) :
    Calls Tryz.prog 36 #[vv k n ao l.length c, .slice oo ops.length oc, .int .i64 gen, .string label] w (DoneE w (doneF gen label (k, n, l) ops (min ops.length 40))) := by
  obtain ⟨NO, hNO⟩ : ∃ N, N = ops.length := ⟨_, rfl⟩
  obtain ⟨NL, hNL⟩ : ∃ N, N = l.length := ⟨_, rfl⟩
  obtain ⟨m0, m1, b1⟩ := new2b w (.cells #[.int .i64 k, .int .i64 n, .slice ao NL c] 46) (.cells #[.int .i64 0, .int .i64 0, .slice none 0 0] 46)
  have hI0 : DnI w (k, n, l) ao c ((w.alloc (.cells #[.int .i64 k, .int .i64 n, .slice ao NL c] 46)).alloc (.cells #[.int .i64 0, .int .i64 0, .slice none 0 0] 46)) := ⟨b1, by simp, by rw [hNL] at m0 ⊢; exact m0, m1, h.below b1, fun hne a ha => by
    have hlt := Nv.lt (B0 := 0) ⟨h, fun _ _ => Nat.zero_le _⟩ hne a ha
    omega⟩
  have hok := fun q => doneF_ok (gen := gen) (label := label) (ops := ops) (v := (k, n, l)) hv q
  rw [← hNO] at hol ⊢
  rw [← hNL]
  have H := hide (And.intro hNO (And.intro ho (And.intro hT (And.intro hI0 (And.intro hok (And.intro hl hNL))))))
  clear hNO hNL m0 m1 b1 hI0 ho hT h hl hok
  obtain ⟨X, hX⟩ : ∃ X, X = w.heap.size := ⟨_, rfl⟩
  obtain ⟨Y8, hY8⟩ : ∃ X, X = w.heap.size + 1 := ⟨_, rfl⟩
  go_enter Tryz.func36, Tryz.ntmps36
  go_upto_region 1 with fail
  rw [← hY8, ← hX]
  have HX := hide (And.intro hX hY8)
  clear hX hY8
  go_wp2
  go_loopw [10] (fun iv wr => ∃ i : Nat, i ≤ NO ∧ i ≤ 40 ∧ iv = .int .i64 i ∧ Hid (∃ a' c', DnI w (doneF gen label (k, n, l) ops i) a' c' wr)) (fun iv _ => 40 - (intOf iv).toNat)
  case atStart => exact ⟨0, by omega, by omega, rfl, hide ⟨_, _, H.out.2.2.2.1⟩⟩
  case round =>
    obtain ⟨i, hi, hi40, rfl, hP⟩ := hrel
    obtain ⟨a', c', hD⟩ := hP.out
    have hok := H.out.2.2.2.2.1 i
    have hnext := fun o (ho : ops[i]? = some o) => show doneF gen label (k, n, l) ops (i + 1) = stepD gen label (doneF gen label (k, n, l) ops i) i o by rw [doneF, ho]
    have hend : min NO 40 = i → doneF gen label (k, n, l) ops (min NO 40) = doneF gen label (k, n, l) ops i := fun e => by rw [e]
    generalize doneF gen label (k, n, l) ops i = Fk at hD hok hnext hend
    obtain ⟨k1, n1, l1⟩ := Fk
    dsimp only at hok
    have hXb : wr.heap[X]? = some (.cells #[.int .i64 k1, .int .i64 n1, .slice a' l1.length c'] 46 (0, 0)) := by rw [HX.out.1]; exact hD.2.2.1
    have hYb : wr.heap[Y8]? = some (.cells #[.int .i64 0, .int .i64 0, .slice none 0 0] 46 (0, 0)) := by rw [HX.out.2]; exact hD.2.2.2.1
    have hll : l1.length ≤ 2000 := by have h1 := hok.2; have h2 := H.out.2.2.2.2.2.1; omega
    by_cases hlt : i < NO ∧ i < 40
    · obtain ⟨hl1, hl2⟩ := hlt
      have z1 : (i : Int) < (NO : Int) := by omega
      have z2 : (i : Int) < 40 := by omega
      have d1 : decide (i < NO) = true := by simpa using hl1
      have d2 : decide (i < 40) = true := by simpa using hl2
      obtain ⟨o, ho⟩ : ∃ o, ops[i]? = some o := ⟨_, List.getElem?_eq_getElem (by rw [← H.out.1]; exact hl1)⟩
      have hnx := hnext o ho
      obtain ⟨hrp, ob, off, hoo, o0, o1, o2, o3, o4, o5⟩ := (H.out.2.1.below hD.1) i o ho
      subst hoo
      obtain ⟨G, hG⟩ : ∃ G, G = wrap64 (gen + (i : Int)) := ⟨_, rfl⟩
      have wz : IntKind.i64.wrap (gen + (i : Int)) = G := by rw [hG, IntKind.wrap_i64, wrap64]
      have wz' : wrap64 (gen + (i : Int)) = G := hG.symm
      obtain ⟨R, hR⟩ : ∃ R, R = appD gen label (k1, n1, l1) i o := ⟨_, rfl⟩
      have hst : stepD gen label (k1, n1, l1) i o = if R.2.2.2 = 0 then (R.1, R.2.1, R.2.2.1) else (k1, n1, l1) := by rw [hR]; rfl
      have hva : R.2.2.2 = 0 → valB R.1 R.2.1 R.2.2.1 = true := fun e => (apply_val hR.symm e).2
      have hRl : R.2.2.1.length ≤ 3000 := by
        rw [hR]
        unfold appD applyV
        split
        · simp
        split
        · simp
        · have := changeL_len l1 o.d (stampD gen label i, o.tx); dsimp only at this ⊢; omega
      obtain ⟨w5, hw5⟩ : ∃ w5, w5 = wr.alloc (.cells #[.int .i64 G, .int .i64 0, .string label, .int .i64 1, .int .i64 0] 52) := ⟨_, rfl⟩
      have b5 : Below wr.heap.size wr w5 := by rw [hw5]; exact (Below.refl _ wr).alloc (Nat.le_refl _) _
      have hD5 := hD.below b5
      have hsD : stampD gen label i = (G, 0, label, 1, 0) := by unfold stampD; rw [wz']
      have k23 : ∀ W, Below w5.heap.size w5 W → Calls Tryz.prog 23 #[vv k1 n1 a' l1.length c', svT (G, 0, label, 1, 0), opv o.pa o.p.length o.pc o.ok o.os o.d o.on o.tx] W (ValE W (R.1, R.2.1, R.2.2.1, R.2.2.2)) := fun W hW => by
        have hbW := hD5.1.trans (hW.mono hD5.1.size)
        have := apply_any k1 n1 (stampD gen label i) o.ok o.os o.d o.on o.tx (hD5.2.2.2.2.1.below hW) (by dsimp only; omega) ((hrp.below b5).below hW) (H.out.2.2.1.below hbW)
        rw [hsD] at this
        have e : applyV k1 n1 l1 (G, 0, label, 1, 0) o.p o.ok o.os o.d o.on o.tx = (R.1, R.2.1, R.2.2.1, R.2.2.2) := by rw [hR, ← hsD]; rfl
        rw [e] at this
        exact this
      obtain ⟨K, N, L, Y⟩ := R
      dsimp only at hst hva k23 hRl
      have hX5 : w5.heap[X]? = some (.cells #[.int .i64 k1, .int .i64 n1, .slice a' l1.length c'] 46 (0, 0)) := (b5.block _ (Array.getElem?_eq_some_iff.1 hXb).1).trans hXb
      obtain ⟨e0, e1, e2⟩ : w5.cell? ⟨X, 0, none⟩ = some (.int .i64 k1) ∧ w5.cell? ⟨X, 1, none⟩ = some (.int .i64 n1) ∧ w5.cell? ⟨X, 2, none⟩ = some (.slice a' l1.length c') := ⟨(cell_of_row _ _ 0 _ 46 (0, 0) hX5).trans rfl, (cell_of_row _ _ 1 _ 46 (0, 0) hX5).trans rfl, (cell_of_row _ _ 2 _ 46 (0, 0) hX5).trans rfl⟩
      have mS := heap_alloc_new wr (.cells #[.int .i64 G, .int .i64 0, .string label, .int .i64 1, .int .i64 0] 52)
      rw [← hw5] at mS
      obtain ⟨SB, hSB⟩ : ∃ S, S = wr.heap.size := ⟨_, rfl⟩
      rw [← hSB] at mS
      obtain ⟨f0, f1, f2, f3, f4, _⟩ := blk5 mS
      have HS := hide (And.intro hw5 (And.intro hSB (And.intro hD5 (And.intro hnx (And.intro hst hva)))))
      have q0 := cell_stays o0 b5
      have q1 := cell_stays o1 b5
      have q2 := cell_stays o2 b5
      have q3 := cell_stays o3 b5
      have q4 := cell_stays o4 b5
      have q5 := cell_stays o5 b5
      clear hw5 hSB hD5 hnx hst hva b5 hD hXb hX5 mS hR hsD hG hrp ho hnext o0 o1 o2 o3 o4 o5
      go_upto_region 5 with fail
      obtain ⟨t1, t2, -⟩ := HS.out
      rw [← t1, ← t2]
      clear t1 t2
      refine wp_d5 (M := L.length) (L := L) (K := K) (N := N) (Y := Y) (s := (G, 0, label, 1, 0)) (i := i) rfl rfl rfl e0 e1 e2 rfl f0 f1 f2 f3 f4 rfl rfl z1 q0 q1 q2 q3 q4 q5 k23 (fun _ _ _ _ _ h => h) ?_
      intro a6 c6 B6 W6 H6
      try simp only [Act.put, List.setIfInBounds_toArray, List.set_cons_zero, List.set_cons_succ]
      have D6 := HS.out.2.2.1.below H6.out.1
      have hX6 : W6.heap[X]? = some (.cells #[.int .i64 k1, .int .i64 n1, .slice a' l1.length c'] 46 (0, 0)) := by rw [HX.out.1]; exact D6.2.2.1
      have hw5s : w.heap.size + 2 ≤ w5.heap.size := HS.out.2.2.1.2.1
      have hB6 := H6.out.2.2.2
      obtain ⟨g0, g1, g2⟩ : W6.cell? ⟨B6, 0, none⟩ = some (.int .i64 K) ∧ W6.cell? ⟨B6, 1, none⟩ = some (.int .i64 N) ∧ W6.cell? ⟨B6, 2, none⟩ = some (.slice a6 L.length c6) := ⟨(cell_of_row _ _ 0 _ 46 (0, 0) hB6).trans rfl, (cell_of_row _ _ 1 _ 46 (0, 0) hB6).trans rfl, (cell_of_row _ _ 2 _ 46 (0, 0) hB6).trans rfl⟩
      obtain ⟨p0, p1, p2⟩ : W6.cell? ⟨X, 0, none⟩ = some (.int .i64 k1) ∧ W6.cell? ⟨X, 1, none⟩ = some (.int .i64 n1) ∧ W6.cell? ⟨X, 2, none⟩ = some (.slice a' l1.length c') := ⟨(cell_of_row _ _ 0 _ 46 (0, 0) hX6).trans rfl, (cell_of_row _ _ 1 _ 46 (0, 0) hX6).trans rfl, (cell_of_row _ _ 2 _ 46 (0, 0) hX6).trans rfl⟩
      have HD6 := hide (And.intro D6 hw5s)
      clear e0 e1 e2 f0 f1 f2 f3 f4 q0 q1 q2 q3 q4 q5 k23 D6 hB6 hw5s
      by_cases hY : Y = 0
      · have HV : Hid (valB K N L = true) := hide (HS.out.2.2.2.2.2 hY)
        have hst := HS.out.2.2.2.1.trans (HS.out.2.2.2.2.1.trans (if_pos hY))
        have HN := hide hst
        clear hst
        subst hY
        have k25 : ∀ W7, Hid (W7.heap[X]? = some (.cells #[.int .i64 K, .int .i64 N, .slice a6 L.length c6] 46 (0, 0)) ∧ Only (fun j => j = X) W6 W7) → Calls Tryz.prog 25 #[vv K N a6 L.length c6] W7 fun e w' => e = .returned (.bool true) ∧ Hid (DnI w (K, N, L) a6 c6 w') := fun W7 H7 => by
          have hbl : L ≠ [] → ∀ a, a6 = some a → a.block ≠ X ∧ a.block ≠ X + 1 := fun _ a ha => by
            have h1 := H6.out.2.2.1.new a ha
            have h2 := HD6.out.2
            have h3 := HX.out.1
            omega
          have hrv := H6.out.2.2.1.rv.onlyB H7.out.2 (fun hl a ha => (hbl hl a ha).1)
          refine (value_any K N hrv (by omega)).mono ?_
          rintro e w' ⟨rfl, b'⟩
          rw [HV.out]
          have D7 : DnI w (K, N, L) a6 c6 W7 := ⟨Below.only HD6.out.1.1 H7.out.2 HD6.out.1.1.size (fun j e => by have := HX.out.1; omega), Nat.le_trans HD6.out.1.2.1 H7.out.2.size, by rw [← HX.out.1]; exact H7.out.1, (H7.out.2.block _ (Array.getElem?_eq_some_iff.1 HD6.out.1.2.2.2.1).1 (by have := HX.out.1; omega)).trans HD6.out.1.2.2.2.1, hrv, fun hl a ha => by have := hbl hl a ha; have := HX.out.1; omega⟩
          exact ⟨rfl, hide (D7.below b')⟩
        go_wp2_with (first
          | (go_at_call 12; refine (num_any _ _).mono ?_; rintro e wn ⟨rfl, hwn⟩; subst hwn)
          | (refine wpList_storeV rfl rfl _ _ rfl X K N a6 L.length c6 rfl rfl hX6 ?_; intro W7 H7; clear p0 p1 p2 g0 g1 g2; have p0 : W7.cell? ⟨X, 0, none⟩ = some (.int .i64 K) := (cell_of_row _ _ 0 _ 46 (0, 0) H7.out.1).trans rfl; have p1 : W7.cell? ⟨X, 1, none⟩ = some (.int .i64 N) := (cell_of_row _ _ 1 _ 46 (0, 0) H7.out.1).trans rfl; have p2 : W7.cell? ⟨X, 2, none⟩ = some (.slice a6 L.length c6) := (cell_of_row _ _ 2 _ 46 (0, 0) H7.out.1).trans rfl)
          | (go_at_call 25; refine (k25 _ H7).mono ?_; rintro e w8 ⟨rfl, H8⟩))
        go_roundw
        case rel => exact ⟨i + 1, by omega, by omega, by go_num, hide ⟨a6, c6, by rw [HN.out]; exact H8.out⟩⟩
        case measure => simp [intOf]; omega
      · have eY : (Y == 0) = false := by simpa using hY
        have hst := HS.out.2.2.2.1.trans (HS.out.2.2.2.2.1.trans (if_neg hY))
        have HN := hide hst
        clear hst
        have k25 := value_any k1 n1 HD6.out.1.2.2.2.2.1 (by dsimp only; omega)
        dsimp only at k25
        rw [hok.1] at k25
        go_wp2_with (first
          | (go_at_call 12; refine (num_any _ _).mono ?_; rintro e wn ⟨rfl, hwn⟩; subst hwn)
          | (go_at_call 25; refine k25.mono ?_; rintro e w8 ⟨rfl, b8⟩; have H8 := hide (HD6.out.1.below b8); clear b8))
        go_roundw
        case rel => exact ⟨i + 1, by omega, by omega, by go_num, hide ⟨a', c', by rw [HN.out]; exact H8.out⟩⟩
        case measure => simp [intOf]; omega
    · have hmin : min NO 40 = i := by omega
      have hend' := hend hmin
      obtain ⟨p0, p1, p2⟩ : wr.cell? ⟨X, 0, none⟩ = some (.int .i64 k1) ∧ wr.cell? ⟨X, 1, none⟩ = some (.int .i64 n1) ∧ wr.cell? ⟨X, 2, none⟩ = some (.slice a' l1.length c') := ⟨(cell_of_row _ _ 0 _ 46 (0, 0) hXb).trans rfl, (cell_of_row _ _ 1 _ 46 (0, 0) hXb).trans rfl, (cell_of_row _ _ 2 _ 46 (0, 0) hXb).trans rfl⟩
      have HE := hide (And.intro hend' (And.intro hD hYb))
      have fin : ∀ W9, Hid (W9.heap[Y8]? = some (.cells #[.int .i64 k1, .int .i64 n1, .slice a' l1.length c'] 46 (0, 0)) ∧ Only (fun j => j = Y8) wr W9) → DoneE w (doneF gen label (k, n, l) ops (min NO 40)) (.returned (.tuple #[vv k1 n1 a' l1.length c', .bool true])) W9 := fun W9 H9 => by
        rw [HE.out.1]
        exact ⟨a', c', rfl, HE.out.2.1.2.2.2.2.1.onlyB H9.out.2 (fun hl a ha => by have := HE.out.2.1.2.2.2.2.2 hl a ha; have := HX.out.2; omega), Below.only HE.out.2.1.1 H9.out.2 HE.out.2.1.1.size (fun j e => by have := HX.out.2; omega)⟩
      replace fin := hide fin
      clear hend hend' hD hnext hok
      by_cases h1 : i < NO
      · have z1 : (i : Int) < (NO : Int) := by omega
        have d1 : decide (i < NO) = true := by simpa using h1
        obtain rfl : i = 40 := by omega
        go_wp2_with (refine wpList_storeV rfl rfl _ _ rfl Y8 k1 n1 a' l1.length c' rfl rfl hYb ?_; intro W9 H9)
        refine ret_row_tmp Y8 [.int .i64 k1, .int .i64 n1, .slice a' l1.length c'] rfl rfl rfl Tryz.underlying46 rfl Tryz.info46 H9.out.1 rfl ?_
        exact fin.out W9 H9
      · have d1 : decide (i < NO) = false := by simpa using h1
        go_wp2_with (refine wpList_storeV rfl rfl _ _ rfl Y8 k1 n1 a' l1.length c' rfl rfl hYb ?_; intro W9 H9)
        refine ret_row_tmp Y8 [.int .i64 k1, .int .i64 n1, .slice a' l1.length c'] rfl rfl rfl Tryz.underlying46 rfl Tryz.info46 H9.out.1 rfl ?_
        exact fin.out W9 H9
end Go.Proofs.YtkdgageljgfgoaaGreatDoor
