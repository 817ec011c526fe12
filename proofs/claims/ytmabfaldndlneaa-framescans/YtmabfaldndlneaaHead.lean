/-
  WALKS over a frame's head: lay, length, the document's word.
-/
import Derived.Test.YtmabfaldndlneaaSmall
namespace Go.Proofs.Ytmabfaldndlneaa
open Go.RowKit Crc
set_option linter.unusedSimpArgs false

/-- So many of a number's four bytes, the lowest first, are laid. -/
def layl (l : List Int) (p n : Nat) : Nat → List Int
  | 0 => l
  | j + 1 => (layl l p n j).set (p + 3 - j) ((n / 256 ^ j % 256 : Nat) : Int)
theorem layl_length (l : List Int) (p n : Nat) : ∀ j, (layl l p n j).length = l.length
  | 0 => rfl
  | j + 1 => by rw [layl, List.length_set, layl_length l p n j]
theorem u8s_set (l : List Int) (k : Nat) (x : Int) : u8s (l.set k x) = (u8s l).set k (.int .u8 x) := by simp [u8s, List.map_set]

set_option maxHeartbeats 1000000 in
set_option maxRecDepth 100000 in
theorem lay_any (g : Nat) (l : List Int) (p n : Nat) (w : World) (hl : l.length = 9) (hp : 1 ≤ p) (hp2 : p + 4 ≤ 9) (hn : n < 4294967296) (hr : w.rangeAt g 0 (u8s l)) (ht : w.there g 0 9) :
    Calls Try.prog 29 #[.pointer (some ⟨g, 0, none⟩), .int .i64 p, .int .u32 n] w fun e w' => (∃ v, e = .returned v) ∧ w'.rangeAt g 0 (u8s (layl l p n 4)) ∧ w'.there g 0 9 ∧ Only (fun k => k = g) w w' := by
  have hpi : (p : Int) ≤ 5 := by omega
  go_enter Try.func29, Try.ntmps29
  go_wp2
  go_loopw [2, 6] (fun nv i wr => ∃ j : Nat, j ≤ 4 ∧ nv = .int .u32 ((n / 256 ^ j : Nat) : Int) ∧ i = .int .i64 ((p + 3 - j : Nat) : Int) ∧ wr.rangeAt g 0 (u8s (layl l p n j)) ∧ wr.there g 0 9 ∧ Only (fun k => k = g) w wr) (fun _ i _ => (intOf i + 1 - p).toNat)
  case atStart => exact ⟨0, by omega, by simp, by simp, hr, ht, Only.refl _ _⟩
  case round =>
    obtain ⟨j, hj, rfl, rfl, hrj, htj, hon⟩ := hrel
    have hlj := layl_length l p n j
    have hxl : n / 256 ^ j < 4294967296 := Nat.lt_of_le_of_lt (Nat.div_le_self _ _) hn
    have HX : Hid (n / 256 ^ (j + 1) = n / 256 ^ j / 256) := by show _ = _; rw [Nat.pow_succ, Nat.div_div_eq_div_mul]
    have HL : Hid (layl l p n (j + 1) = (layl l p n j).set (p + 3 - j) ((n / 256 ^ j % 256 : Nat) : Int)) := rfl
    by_cases h4 : j < 4
    · obtain ⟨b, hb⟩ : ∃ b, (u8s (layl l p n j))[p + 3 - j]? = some (.int .u8 b) := ⟨_, by rw [u8s_get, List.getElem?_eq_getElem (by omega)]; rfl⟩
      have hc := rangeAt_cell hrj hb
      have hf := there_free htj (k := p + 3 - j) (by omega)
      obtain ⟨x, hx⟩ : ∃ x, x = n / 256 ^ j := ⟨_, rfl⟩
      rw [← hx] at HX HL hxl ⊢
      obtain ⟨q, hq⟩ : ∃ q, q = p + 3 - j := ⟨_, rfl⟩
      rw [← hq] at hc hf HL ⊢
      have hq1 : p ≤ q := by omega
      have hq2 : q < 9 := by omega
      have hd : decide ((p : Int) ≤ (q : Int)) = true := by simp; omega
      have hq9 : (q : Int) < 9 := by omega
      rw [show ((x % 256 : Nat) : Int) = (x : Int) % 256 by omega] at HL
      have HR := hide (And.intro (rangeAt_set (k := q) hrj (by rw [u8s_length]; omega) (.int .u8 ((x : Int) % 256))) (And.intro (there_set (c := g) htj q (.int .u8 ((x : Int) % 256))) (hon.setCell ⟨g, q, none⟩ (.int .u8 ((x : Int) % 256)) (fun _ => rfl))))
      have HQ := hide (And.intro hq h4)
      clear hq hx hb hrj htj hon hr ht h4
      go_wp2
      go_roundw
      case rel =>
        obtain ⟨h1, h2, h3⟩ := HR.out
        refine ⟨j + 1, by have := HQ.out.2; omega, ?_, ?_, ?_, ?_, ?_⟩
        · rw [HX.out]; go_num
        · have := HQ.out.1; have := HQ.out.2; congr 1; omega
        · rw [HL.out, u8s_set]; exact h1
        · exact h2
        · exact h3
      case measure => simp [intOf]; omega
    · obtain rfl : j = 4 := by omega
      have hd : decide ((p : Int) ≤ ((p + 3 - 4 : Nat) : Int)) = false := by simp; omega
      go_wp2
      go_end0
      exact ⟨⟨_, rfl⟩, hrj, htj, hon⟩

/-- What the first so many of the four bytes say. -/
def vl (l : List Int) : Nat → Nat
  | 0 => 0
  | j + 1 => vl l j * 256 + (l.getD (1 + j) 0).toNat
theorem vl_four (l : List Int) : vl l 4 = len4 l := by simp [vl, len4]
theorem vl_lt {l : List Int} (h : U8 l) : ∀ j, vl l j < 256 ^ j
  | 0 => by simp [vl]
  | j + 1 => by
    have h1 := vl_lt h j
    have h2 := h.getD (1 + j)
    rw [vl, Nat.pow_succ]
    omega
theorem u32_or_low (x b : Nat) (hx : x < 16777216) (hb : b < 256) : bits .or .u32 ((x : Int) * 256) (b : Int) = ((x * 256 + b : Nat) : Int) := by
  have h := u32_or_nat (x * 256) b (by omega) (by omega)
  have h2 : x * 256 + b = x * 256 ||| b := by
    have := Nat.shiftLeft_add_eq_or_of_lt (i := 8) (show b < 2 ^ 8 by omega) x
    rw [Nat.shiftLeft_eq] at this
    exact this
  rw [show ((x * 256 : Nat) : Int) = (x : Int) * 256 by omega] at h
  rw [h, ← h2]

set_option maxHeartbeats 1000000 in
set_option maxRecDepth 100000 in
theorem length_any (l : List Int) (w : World) (hl : l.length = 9) (hu : U8 l) :
    Calls Try.prog 28 #[.agg (u8s l).toArray] w fun e w' => e = .returned (.int .u32 (len4 l : Nat)) ∧ Below w.heap.size w w' := by
  have hW : Below w.heap.size w (w.alloc (.cells (u8s l).toArray 53)) := (Below.refl _ w).alloc (Nat.le_refl _) _
  have hcs := rangeAt_new w (u8s l) 53
  go_enter Try.func28, Try.ntmps28
  go_wp2
  generalize w.alloc (.cells (u8s l).toArray 53) = W at hW hcs ⊢
  go_loop [3, 8] (fun x i => ∃ j : Nat, j ≤ 4 ∧ i = .int .i64 j ∧ x = .int .u32 (vl l j : Nat)) (fun _ i => 4 - (intOf i).toNat)
  case atStart => exact ⟨0, by omega, rfl, rfl⟩
  case round =>
    obtain ⟨j, hj, rfl, rfl⟩ := hrel
    by_cases h4 : j < 4
    · have hb := hu.getD (1 + j)
      obtain ⟨b, hbe⟩ := Int.eq_ofNat_of_zero_le hb.1
      have hc := rangeAt_cell (k := 1 + j) (v := .int .u8 (b : Int)) hcs (by rw [u8s_get, List.getElem?_eq_getElem (by omega), ← hbe, List.getD_eq_getElem?_getD, List.getElem?_eq_getElem (by omega)]; rfl)
      have hb2 : b < 256 := by rw [hbe] at hb; omega
      have hx : vl l j < 16777216 := Nat.lt_of_lt_of_le (vl_lt hu j) (by
        rcases (show j = 0 ∨ j = 1 ∨ j = 2 ∨ j = 3 by omega) with rfl | rfl | rfl | rfl <;> decide)
      have HV : Hid (vl l (j + 1) = vl l j * 256 + b) := by show _ = _; rw [vl, hbe]; rfl
      obtain ⟨x, hxe⟩ : ∃ x, x = vl l j := ⟨_, rfl⟩
      rw [← hxe] at hx HV ⊢
      have hor := u32_or_low x b hx hb2
      have hji : (j : Int) < 4 := by omega
      have hbm : (b : Int) % 4294967296 = b := by omega
      have hxm : (x : Int) * 256 % 4294967296 = (x : Int) * 256 := by omega
      clear hb hbe hxe hcs
      go_wp2
      go_round
      case rel => exact ⟨j + 1, by omega, by go_num, by rw [HV.out]; exact int_eq (by omega)⟩
      case measure => simp [intOf]; omega
    · obtain rfl : j = 4 := by omega
      rw [vl_four]
      go_wp2
      go_ret
      exact ⟨rfl, hW⟩

/-- Bytes that were laid whole. -/
theorem own_lit (w : World) (l : List Int) (n : Nat) (hn : l.length = n) (hl : n ≤ 140737488355328) : Own 5 (w.alloc (.cells (u8s l).toArray 5)) w.heap.size (.slice (some ⟨w.heap.size, 0, none⟩) n n) l := by
  subst hn
  refine ⟨by simp [u8s], .inr ⟨w.heap.size, l.length, (u8s l).toArray, rfl, Nat.le_refl _, heap_alloc_new w _, Nat.le_refl _, by unfold maxLen; omega, by simp [u8s], by simp only [u8s]; rw [List.take_of_length_le (by simp)]⟩⟩

set_option maxHeartbeats 400000 in
set_option maxRecDepth 100000 in
theorem word_any (n : Nat) (w : World) (hn : n < 4294967296) : Calls Try.prog 25 #[.int .u32 n] w fun e w' => Made 5 w w' e (w4 n) := by
  have h := own_lit w (w4 n) 4 rfl (by omega)
  have hb : Below w.heap.size w (w.alloc (.cells (u8s (w4 n)).toArray 5)) := (Below.refl _ w).alloc (Nat.le_refl _) _
  have e : u8s (w4 n) = [.int .u8 ((n : Int) / 16777216), .int .u8 ((n : Int) / 65536 % 256), .int .u8 ((n : Int) / 256 % 256), .int .u8 ((n : Int) % 256)] := by
    simp only [w4, u8s, List.map_cons, List.map_nil]
    refine List.cons_eq_cons.2 ⟨int_eq (by omega), List.cons_eq_cons.2 ⟨int_eq (by omega), List.cons_eq_cons.2 ⟨int_eq (by omega), List.cons_eq_cons.2 ⟨int_eq (by omega), rfl⟩⟩⟩⟩
  rw [e] at h hb
  have HH := hide (And.intro h hb)
  clear h hb e
  go_enter Try.func25, Try.ntmps25
  go_wp2
  go_ret
  exact ⟨_, _, rfl, HH.out.1, by simp, HH.out.2⟩

theorem _root_.Go.Proofs.Try.info53 : (Try.prog.info? 53).map (fun i => (i.zero, i.size)) = some (some (.agg (Array.replicate 9 (.int .u8 0))), 9) := by kernel_rfl
theorem rd_range {w : World} {g : Nat} {l : List Int} (h : w.rangeAt g 0 (u8s l)) : Rd w (some ⟨g, 0, none⟩) l :=
  ⟨by simp, fun a ha j u hj => by cases ha; rw [add_lit]; simpa using rangeAt_cell h hj⟩
theorem layl_one (k : Int) (l : List Int) : layl [k, 0, 0, 0, 0, 0, 0, 0, 0] 1 l.length 4 = hd5 k l ++ [0, 0, 0, 0] := by
  simp [layl, hd5, w4]
theorem layl_two (k : Int) (l : List Int) : layl (hd5 k l ++ [0, 0, 0, 0]) 5 (sm k l) 4 = head k l := by
  simp [layl, head, hd5, w4]
theorem Only.range {w w' : World} {D : Nat → Prop} {g : Nat} {cs : List Value} (h : Only D w w') (hr : w.rangeAt g 0 cs) (hD : ¬ D g) : w'.rangeAt g 0 cs := fun j u hu => h.cell (hr j u hu) (by simpa using hD)
theorem Only.there {w w' : World} {D : Nat → Prop} {g n : Nat} (h : Only D w w') (hr : w.there g 0 n) (hg : g < w.heap.size) (hD : ¬ D g) : w'.there g 0 n := fun j hj => by
  obtain ⟨h1, h2⟩ := hr j hj
  have hb := h.block g hg hD
  refine ⟨?_, ?_⟩
  · simpa [World.cell?, hb] using h1
  · simpa [World.frozen?, hb] using h2

set_option maxHeartbeats 1000000 in
set_option maxRecDepth 100000 in
theorem headerOf_any (k : Int) (ao : Option Addr) (c : Nat) (l : List Int) (w : World) (hk : 0 ≤ k ∧ k ≤ 255) (hr : Rd w ao l) (hn : ao = none → c = 0) (hu : U8 l) (hl : l.length ≤ 16777216) :
    Calls Try.prog 23 #[.int .u8 k, .slice ao l.length c] w fun e w' => e = .returned (.agg (u8s (head k l)).toArray) ∧ Below w.heap.size w w' := by
  obtain ⟨hz, hi⟩ := zero_of_info (P := Try.prog) Try.info53
  have hlm : (l.length : Int) % 4294967296 = l.length := by omega
  have b1 : Below w.heap.size w (w.alloc (.cells (Array.replicate 9 (.int .u8 0)) 53)) := (Below.refl _ w).alloc (Nat.le_refl _) _
  have b2 : Below w.heap.size w ((w.alloc (.cells (Array.replicate 9 (.int .u8 0)) 53)).alloc (.cells (Array.replicate 9 (.int .u8 0)) 53)) := b1.alloc b1.size _
  have t0 : ((w.alloc (.cells (Array.replicate 9 (.int .u8 0)) 53)).alloc (.cells (Array.replicate 9 (.int .u8 0)) 53)).there w.heap.size 0 9 := World.there_alloc (there_new w (List.replicate 9 (.int .u8 0)) 53) _
  have r1 := rangeAt_new (w.alloc (.cells (Array.replicate 9 (.int .u8 0)) 53)) (List.replicate 9 (.int .u8 0)) 53
  have t1 := there_new (w.alloc (.cells (Array.replicate 9 (.int .u8 0)) 53)) (List.replicate 9 (.int .u8 0)) 53
  rw [show (w.alloc (.cells (Array.replicate 9 (.int .u8 0)) 53)).heap.size = w.heap.size + 1 by simp] at r1 t1
  rw [show (List.replicate 9 (Value.int .u8 0)).toArray = Array.replicate 9 (.int .u8 0) from rfl] at r1 t1
  go_enter Try.func23, Try.ntmps23
  go_upto_region 2 with (fail)
  have hs2 : ((w.alloc (.cells (Array.replicate 9 (.int .u8 0)) 53)).alloc (.cells (Array.replicate 9 (.int .u8 0)) 53)).heap.size = w.heap.size + 2 := by simp
  generalize ((w.alloc (.cells (Array.replicate 9 (.int .u8 0)) 53)).alloc (.cells (Array.replicate 9 (.int .u8 0)) 53)) = W at b2 t0 r1 t1 hs2 ⊢
  have c0 : W.cell? ⟨w.heap.size + 1, 0, none⟩ = some (.int .u8 0) := rangeAt_cell (k := 0) r1 rfl
  have f0 : W.frozen? ⟨w.heap.size + 1, 0, none⟩ = false := there_free t1 (k := 0) (by simp)
  have o3 := (Only.refl (fun j => j = w.heap.size + 1) W).setCell ⟨w.heap.size + 1, 0, none⟩ (.int .u8 k) (fun _ => rfl)
  have hlay1 := lay_any (w.heap.size + 1) [k, 0, 0, 0, 0, 0, 0, 0, 0] 1 l.length (W.setCell ⟨w.heap.size + 1, 0, none⟩ (.int .u8 k)) rfl (by omega) (by omega) (by omega) (rangeAt_set (k := 0) r1 (by simp) (.int .u8 k)) (there_set (c := w.heap.size + 1) t1 0 (.int .u8 k))
  rw [layl_one] at hlay1
  have hs3 : (W.setCell ⟨w.heap.size + 1, 0, none⟩ (.int .u8 k)).heap.size = w.heap.size + 2 := by simp [hs2]
  have HA := hide (And.intro b2 (And.intro t0 o3))
  have hsm := sm_lt hk hu
  have hS : ∀ w3, Only (fun j => j = w.heap.size + 1) (W.setCell ⟨w.heap.size + 1, 0, none⟩ (.int .u8 k)) w3 → w3.rangeAt (w.heap.size + 1) 0 (u8s (hd5 k l ++ [0, 0, 0, 0])) → w3.there (w.heap.size + 1) 0 9 → Hid (Below w.heap.size w w3 ∧ w3.there w.heap.size 0 9 ∧ w3.heap.size = w3.heap.size ∧ w.heap.size + 2 ≤ w3.heap.size) ∧
      Calls Try.prog 30 #[.slice (some ⟨w3.heap.size, 0, none⟩) 2 2] (w3.alloc (.cells #[.slice (some ⟨w.heap.size + 1, 0, none⟩) 5 9, .slice ao l.length c] 22)) (fun e w' => e = .returned (.int .u32 (sm k l : Nat)) ∧ Below w3.heap.size w3 w' ∧ ∃ w5, w5 = w' ∧
        Calls Try.prog 29 #[.pointer (some ⟨w.heap.size + 1, 0, none⟩), .int .i64 5, .int .u32 (sm k l : Nat)] w' fun e w' => (∃ v, e = .returned v) ∧ w'.rangeAt (w.heap.size + 1) 0 (u8s (head k l)) ∧ w'.there (w.heap.size + 1) 0 9 ∧ Only (fun k => k = w.heap.size + 1) w5 w') := fun w3 hon hr3 ht3 => by
    have q : Only (fun j => j = w.heap.size + 1) W w3 := o3.trans hon (fun _ _ h => h)
    have hsz := q.size
    have bw3 : Below w.heap.size w w3 := Below.only b2 q (by omega) (by intro j e; omega)
    refine ⟨hide ⟨bw3, q.there t0 (by omega) (by omega), rfl, by omega⟩, ?_⟩
    have hrd : Rd w3 (some ⟨w.heap.size + 1, 0, none⟩) (hd5 k l) := (rd_range hr3).take 5
    refine (sum_two (t := 22) (w := w3) (sm k l) rfl rfl (hd5_length k l) rfl hrd (by simp) (hr.below bw3) hn (hd5_u8 l hk) hu (by omega) (by omega)).mono ?_
    rintro e w' ⟨rfl, hb⟩
    refine ⟨rfl, hb, w', rfl, ?_⟩
    have := lay_any (w.heap.size + 1) (hd5 k l ++ [0, 0, 0, 0]) 5 (sm k l) w' rfl (by omega) (by omega) hsm (rangeAt_below hr3 hb (by omega)) (there_below ht3 hb (by omega))
    rw [layl_two] at this
    exact this
  clear o3 t0 t1 r1 b2 b1 hz hr hn hu hsm hk
  have tk : True := trivial
  go_wp2_with (first
    | (go_at_call 29; clear tk; refine hlay1.mono ?_; rintro e w3 ⟨⟨v, rfl⟩, hr3, ht3, hon3⟩; obtain ⟨HB3, hsum⟩ := hS w3 hon3 hr3 ht3)
    | (go_at_call 30; refine hsum.mono ?_; rintro e w5 ⟨rfl, hb5, _, rfl, hlay2⟩)
    | (go_at_call 29; refine hlay2.mono ?_; rintro e w6 ⟨⟨v, rfl⟩, hr6, ht6, hon6⟩; have hth : w6.there w.heap.size 0 9 := (hon6.there (there_below HB3.out.2.1 hb5 (by have := HB3.out.2.2.2; omega)) (by have := HB3.out.2.2.2; have := hb5.size; omega) (by omega)))
    | refine wpList_load_tab 53 (.tmp 5) (w.heap.size + 1) 9 (u8s (head k l)) rfl rfl rfl Try.underlying53 hi (by simp [u8s, head_length]) hr6 ?_
    | refine wpList_store_tab 53 (.tmp 4) (.tmp 17) w.heap.size 9 (u8s (head k l)) rfl rfl rfl rfl rfl hi (by simp [u8s, head_length]) hth u8s_one ?_)
  obtain ⟨hb3, hth3, _, hsz3⟩ := HB3.out
  have hb6 : Below w.heap.size w w6 := Below.only (hb3.trans (hb5.mono hb3.size)) hon6 (Nat.le_trans hb3.size hb5.size) (by intro j e; omega)
  refine ret_tab w.heap.size 9 (u8s (head k l)) rfl rfl Try.underlying53 hi (by simp [u8s, head_length]) ?_ rfl ⟨rfl, below_setCells (Nat.le_refl _) _ _ hb6⟩
  exact World.rangeAt_setCells_same _ _ _ _ (by rw [u8s_length, head_length]; exact hth)

set_option maxHeartbeats 400000 in
set_option maxRecDepth 100000 in
theorem join_any (ao : Option Addr) (cap : Nat) (L : List (List Int)) (w : World) (hp : Pieces w ao L) (hlen : L.length ≤ 9223372036854775807) (hsum : L.flatten.length ≤ 140737488355328) :
    Calls Try.prog 24 #[.slice ao L.length cap] w fun e w' => Made 5 w w' e L.flatten := by
  obtain ⟨i0, hi, hz0, hz1, hz2⟩ := info_parts Try.info5
  go_enter Try.func24, Try.ntmps24
  go_wp2
  go_loopw [3, 8] (fun v i wr => ∃ (k : Nat) (p : List Int) (ao' : Option Addr) (cap' : Nat), k ≤ L.length ∧ i = .int .i64 k ∧ p = (L.take k).flatten ∧ v = .slice ao' p.length cap' ∧ Own 5 wr w.heap.size (.slice ao' p.length cap') p ∧ (ao' = none → cap' = 0) ∧ Below w.heap.size w wr)
    (fun _ i _ => L.length - (intOf i).toNat)
  case atStart => exact ⟨0, [], none, 0, Nat.zero_le _, rfl, by simp, rfl, Own.nil _ _ _, by simp, Below.refl _ _⟩
  case round =>
    obtain ⟨k, p, ao', cap', hk, rfl, hpk, rfl, hown, hnil, hb⟩ := hrel
    have hsz := hb.size
    have HP : Hid (p = (L.take k).flatten) := hpk
    by_cases hlt : k < L.length
    · obtain ⟨l, hl⟩ : ∃ l, L[k]? = some l := ⟨_, List.getElem?_eq_getElem hlt⟩
      have hle : p.length + l.length ≤ 140737488355328 := by
        have h1 := flat_snoc L k l hl
        have h2 := flat_take_le L (k + 1)
        rw [h1, ← hpk, List.length_append] at h2
        omega
      have HL : Hid (L[k]? = some l) := hl
      cases ao with
      | none => have := hp.1 rfl; subst this; simp at hlt
      | some a =>
        obtain ⟨aj, cj, hc, hr, hn⟩ := (hp.below (w' := wr) hb).2 a rfl k l hl
        clear hl hpk
        obtain ⟨ab, aoff, aspot⟩ := a
        have hc0 : ∃ u, w.cell? ⟨ab, aoff, aspot⟩ = some u := by
          obtain ⟨_, _, h0, _⟩ := hp.2 _ rfl 0 (L[0]'(by omega)) (List.getElem?_eq_getElem _)
          exact ⟨_, by simpa [Addr.add] using h0⟩
        obtain ⟨_, hc0⟩ := hc0
        have hspot : aspot = none := World.cell?_spot hc0
        subst hspot
        rw [add_lit] at hc
        clear hc0
        go_wp2_with (at_builtin; refine wpList_append_rd rfl _ _ 22 rfl w.heap.size 5 i0 Try.underlying22 hi hz0 hz1 hz2 _ _ rfl hown aj cj l rfl hn hr hle hsz ?_)
        intro ao1 cap1 w1 hown' hgrow hnil'
        have hb' := below_own hb hsz hown hgrow
        clear hgrow hown hr hc
        go_wp2
        go_roundw
        case rel => exact ⟨k + 1, p ++ l, ao1, cap1, by omega, by go_num, by rw [flat_snoc L k l HL.out, ← HP.out], by simp, by simpa using hown', hnil', hb'⟩
        case measure => simp [intOf]; omega
    · clear hpk
      go_wp2
      go_ret
      have he : p = L.flatten := by rw [HP.out, List.take_of_length_le (by omega)]
      subst he
      exact ⟨ao', cap', rfl, hown, hnil, hb⟩

end Go.Proofs.Ytmabfaldndlneaa
