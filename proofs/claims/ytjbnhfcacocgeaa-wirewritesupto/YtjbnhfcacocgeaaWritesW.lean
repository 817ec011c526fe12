/-
  THE WALK over the law WireWrites.
-/
import Derived.Test.YtjbnhfcacocgeaaSpoil
import Derived.Test.YtjbnhfcacocgeaaDrawn
import Derived.Test.YtjbnhfcacocgeaaBackW
import Derived.Deep.DeepCutAuto
namespace Go.Proofs.Ytjbnhfcacocgeaa
open Go.RowKit
attribute [local go_sem ↓] Go.wp_at_zero Go.wp_at_succ
set_option linter.unusedSimpArgs false

/-- The block of this address lies from P on, below Q. -/
def Blk (ao : Option Addr) (P Q : Nat) : Prop := ∀ a, ao = some a → P ≤ a.block ∧ a.block < Q

theorem own_row (ao : Option Addr) (n c : Nat) : Value.ownBlock (.slice ao n c) = ao.map (·.block) := by cases ao <;> rfl

theorem Rd.apart {w w' : World} {ao ao' : Option Addr} {l : List Int} {n c P Q P' Q' : Nat} (h : Rd w ao l) (hg : w.grownBy w' (Value.ownBlock (.slice ao' n c))) (b : Blk ao P Q) (b' : Blk ao' P' Q') (hd : Q ≤ P' ∨ Q' ≤ P) : Rd w' ao l :=
  h.grown hg (fun a ha e => by
    rw [own_row] at e
    cases ao' with
    | none => simp at e
    | some a' =>
      simp at e
      have h1 := b a ha
      have h2 := b' a' rfl
      omega)

theorem Own.apart {e : TypeId} {w w' : World} {B m d : Nat} {ao ao' : Option Addr} {l : List Int} {n c P Q P' Q' : Nat} (h : Own e w B (.slice ao m d) l) (hg : w.grownBy w' (Value.ownBlock (.slice ao' n c))) (b : Blk ao P Q) (b' : Blk ao' P' Q') (hd : Q ≤ P' ∨ Q' ≤ P) : Own e w' B (.slice ao m d) l := by
  refine h.kept hg ?_
  rw [own_row, own_row]
  cases ao with
  | none => exact .inl rfl
  | some a =>
    right
    intro e
    cases ao' with
    | none => simp at e
    | some a' =>
      simp at e
      have h1 := b a rfl
      have h2 := b' a' rfl
      omega

theorem Below.spoiled {B : Nat} {a w w' : World} {ao' : Option Addr} {n c P' Q' : Nat} (hb : Below B a w) (hB : B ≤ w.heap.size) (hg : w.grownBy w' (Value.ownBlock (.slice ao' n c))) (b' : Blk ao' P' Q') (hd : B ≤ P') : Below B a w' :=
  hb.grown hg hB (fun k hk => by
    rw [own_row] at hk
    cases ao' with
    | none => simp at hk
    | some a' => simp at hk; have := b' a' rfl; omega)

/-- A piece that lies there. -/
theorem Pieces.at {w : World} {lo : Option Addr} {L : List (List Int)} {k : Nat} {l : List Int} (h : Pieces w lo L) (hl : L[k]? = some l) :
    ∃ ab aoff aj cj, lo = some ⟨ab, aoff, none⟩ ∧ w.cell? ⟨ab, aoff + k, none⟩ = some (.slice aj l.length cj) ∧ Rd w aj l ∧ (aj = none → cj = 0) := by
  have hlt := (List.getElem?_eq_some_iff.1 hl).1
  cases lo with
  | none => have := h.1 rfl; subst this; simp at hlt
  | some a =>
    obtain ⟨aj, cj, hc, hr, hn⟩ := h.2 a rfl k l hl
    obtain ⟨_, _, hc0, _⟩ := h.2 a rfl 0 (L[0]'(by omega)) (List.getElem?_eq_getElem _)
    obtain ⟨ab, aoff, sp⟩ := a
    have hs : sp = none := World.cell?_spot (by simpa [Addr.add] using hc0)
    subst hs
    rw [add_lit] at hc
    exact ⟨ab, aoff, aj, cj, rfl, hc, hr, hn⟩

theorem below_undrew {a w' : World} (h : Below a.drew.heap.size a.drew w') : Below a.heap.size a w' := ⟨h.os, h.tape, h.output, h.size, h.block⟩
theorem bytes_at (ao : Option Addr) (cap n : Nat) (l q : List Int) (w : World) (hn : l.length = n) (hq : q = Plain.numL n ++ l) (hr : Rd w ao l) (hnil : ao = none → cap = 0) (hl : n + 10 ≤ 140737488355328) :
    Calls Try.prog 8 #[.slice ao n cap] w fun e w' => Made 5 w w' e q := by
  subst hn hq
  exact bytes_any ao cap l w hr hnil hl
theorem number_at (n : Nat) (q : List Int) (w : World) (hq : q = Plain.numL n) (hn : n < 18446744073709551616) :
    Calls Try.prog 9 #[.int .u64 n] w fun e w' => Made 5 w w' e q := by
  subst hq
  exact number_any n w hn
theorem Made.blk {w w' : World} {e : TypeId} {ao : Option Addr} {n cap : Nat} {l : List Int} (h : Own e w' w.heap.size (.slice ao n cap) l) : Blk ao w.heap.size w'.heap.size := h.blk

theorem flat_sub (L : List (List Int)) (j : Nat) (l : List Int) (h : L[j]? = some l) : (L.flatten.drop (L.take j).flatten.length).take l.length = l := by
  have h1 : L.flatten = (L.take j).flatten ++ (L.drop j).flatten := by rw [← List.flatten_append, List.take_append_drop]
  obtain ⟨hj, rfl⟩ := List.getElem?_eq_some_iff.1 h
  rw [h1, List.drop_left, List.drop_eq_getElem_cons hj, List.flatten_cons, List.take_left]
theorem Rd.sub {w : World} {ao : Option Addr} {l : List Int} (h : Rd w ao l) (k : Nat) : Rd w (ao.map (fun x => x.add k)) (l.drop k) := by
  cases ao with
  | none => refine ⟨fun _ => ?_, by simp⟩; rw [h.1 rfl]; simp
  | some a =>
    refine ⟨by simp, ?_⟩
    intro a' ha' j u hj
    simp only [Option.map_some, Option.some.injEq] at ha'
    subst ha'
    rw [add_add]
    exact h.2 a rfl (k + j) u (by rw [u8s_get] at hj ⊢; rw [List.getElem?_drop] at hj; exact hj)
theorem box_keep' {B P' Q' n c : Nat} {x0 x1 x2 x3 : Value} {ao' : Option Addr} {wa wb : World} (h : wa.cell? ⟨B, 0, none⟩ = some x0 ∧ wa.cell? ⟨B, 1, none⟩ = some x1 ∧ wa.cell? ⟨B, 2, none⟩ = some x2 ∧ wa.cell? ⟨B, 3, none⟩ = some x3) (_hB : B ≤ wa.heap.size)
    (hg : wa.grownBy wb (Value.ownBlock (.slice ao' n c))) (b' : Blk ao' P' Q') (hd : B < P') :
    wb.cell? ⟨B, 0, none⟩ = some x0 ∧ wb.cell? ⟨B, 1, none⟩ = some x1 ∧ wb.cell? ⟨B, 2, none⟩ = some x2 ∧ wb.cell? ⟨B, 3, none⟩ = some x3 := by
  have hne : some B ≠ Value.ownBlock (.slice ao' n c) := by
    rw [own_row]
    cases ao' with
    | none => simp
    | some a' => have := b' a' rfl; simp; omega
  exact ⟨hg.cell h.1 hne, hg.cell h.2.1 hne, hg.cell h.2.2.1 hne, hg.cell h.2.2.2 hne⟩
theorem conv_cat {w : World} {ao : Option Addr} {cap : Nat} {l : List Int} (hr : Rd w ao (l ++ [119])) : (convert 23 9 (.slice ao (l.length + 1) cap)).run Try.prog w = .ok (.string (strOfNums l ++ { data := #[119] })) w := by
  have h := conv_rd (n := l.length + 1) (cap := cap) hr (by simp)
  have e : strOfNums (l ++ [119]) = strOfNums l ++ { data := #[119] } := by
    apply ByteArray.ext
    simp [strOfNums]
  rw [e] at h
  exact h
theorem add_byte (l : List Int) (u : World) (h : l.length ≤ 1048576) : (binOp .add 9 (.string (strOfNums l)) (.string { data := #[119] })).run Try.prog u = .ok (.string (strOfNums l ++ { data := #[119] })) u := by
  have hs := strOfNums_size l
  have h1 : ({ data := #[119] } : ByteArray).size = 1 := rfl
  have := run_string_add_sum (P := Try.prog) (w := u) (strOfNums l) { data := #[119] } (by rw [hs, h1]; omega)
  simpa [binOp] using this
theorem below_undrewN {a w' : World} {n : Nat} (h : Below (a.drewN n).drew.heap.size (a.drewN n).drew w') : Below a.heap.size a w' := ⟨h.os, h.tape, h.output, h.size, h.block⟩
theorem keep21 {N : Nat} {S : Int} {F : Bool} {ao ob od oo2 : Option Addr} {lB fb fn : List Int} {capB cb cd co2 B0 : Nat} {wa wb : World} (h : (wa.cell? ⟨B0, 0, none⟩ = some (.int .u64 N) ∧ wa.cell? ⟨B0, 1, none⟩ = some (.int .i64 S) ∧ wa.cell? ⟨B0, 2, none⟩ = some (.bool F) ∧ wa.cell? ⟨B0, 3, none⟩ = some (.slice ao lB.length capB)) ∧ Rd wa ob fb ∧ Rd wa od fn ∧ Rd wa oo2 (lB ++ [119]) ∧ Rd wa ao lB ∧ (convert 23 9 (.slice ob fb.length cb)).run Try.prog wa = .ok (.string (strOfNums fb)) wa ∧ (convert 23 9 (.slice od fn.length cd)).run Try.prog wa = .ok (.string (strOfNums fn)) wa ∧ (convert 23 9 (.slice oo2 (lB.length + 1) co2)).run Try.prog wa = .ok (.string (strOfNums lB ++ { data := #[119] })) wa ∧ (convert 23 9 (.slice ao lB.length capB)).run Try.prog wa = .ok (.string (strOfNums lB)) wa) (hb : Below wa.heap.size wa wb) :
    (wb.cell? ⟨B0, 0, none⟩ = some (.int .u64 N) ∧ wb.cell? ⟨B0, 1, none⟩ = some (.int .i64 S) ∧ wb.cell? ⟨B0, 2, none⟩ = some (.bool F) ∧ wb.cell? ⟨B0, 3, none⟩ = some (.slice ao lB.length capB)) ∧ Rd wb ob fb ∧ Rd wb od fn ∧ Rd wb oo2 (lB ++ [119]) ∧ Rd wb ao lB ∧ (convert 23 9 (.slice ob fb.length cb)).run Try.prog wb = .ok (.string (strOfNums fb)) wb ∧ (convert 23 9 (.slice od fn.length cd)).run Try.prog wb = .ok (.string (strOfNums fn)) wb ∧ (convert 23 9 (.slice oo2 (lB.length + 1) co2)).run Try.prog wb = .ok (.string (strOfNums lB ++ { data := #[119] })) wb ∧ (convert 23 9 (.slice ao lB.length capB)).run Try.prog wb = .ok (.string (strOfNums lB)) wb :=
  ⟨box_keep h.1 hb, h.2.1.below hb, h.2.2.1.below hb, h.2.2.2.1.below hb, h.2.2.2.2.1.below hb, conv_rd (h.2.1.below hb) rfl, conv_rd (h.2.2.1.below hb) rfl, conv_cat (h.2.2.2.1.below hb), conv_rd (h.2.2.2.2.1.below hb) rfl⟩
theorem keep10 {N : Nat} {S : Int} {F : Bool} {ao oa oc oj oe : Option Addr} {lB fb fn p : List Int} {capB ca cc cj ce B0 : Nat} {wa wb : World} (h : (wa.cell? ⟨B0, 0, none⟩ = some (.int .u64 N) ∧ wa.cell? ⟨B0, 1, none⟩ = some (.int .i64 S) ∧ wa.cell? ⟨B0, 2, none⟩ = some (.bool F) ∧ wa.cell? ⟨B0, 3, none⟩ = some (.slice ao lB.length capB)) ∧ Rd wa oa fb ∧ Rd wa oc fn ∧ Rd wa oj p ∧ Rd wa oe p ∧ (convert 23 9 (.slice oa fb.length ca)).run Try.prog wa = .ok (.string (strOfNums fb)) wa ∧ (convert 23 9 (.slice oc fn.length cc)).run Try.prog wa = .ok (.string (strOfNums fn)) wa ∧ (convert 23 9 (.slice oj p.length cj)).run Try.prog wa = .ok (.string (strOfNums p)) wa ∧ (convert 23 9 (.slice oe p.length ce)).run Try.prog wa = .ok (.string (strOfNums p)) wa) (hb : Below wa.heap.size wa wb) :
    (wb.cell? ⟨B0, 0, none⟩ = some (.int .u64 N) ∧ wb.cell? ⟨B0, 1, none⟩ = some (.int .i64 S) ∧ wb.cell? ⟨B0, 2, none⟩ = some (.bool F) ∧ wb.cell? ⟨B0, 3, none⟩ = some (.slice ao lB.length capB)) ∧ Rd wb oa fb ∧ Rd wb oc fn ∧ Rd wb oj p ∧ Rd wb oe p ∧ (convert 23 9 (.slice oa fb.length ca)).run Try.prog wb = .ok (.string (strOfNums fb)) wb ∧ (convert 23 9 (.slice oc fn.length cc)).run Try.prog wb = .ok (.string (strOfNums fn)) wb ∧ (convert 23 9 (.slice oj p.length cj)).run Try.prog wb = .ok (.string (strOfNums p)) wb ∧ (convert 23 9 (.slice oe p.length ce)).run Try.prog wb = .ok (.string (strOfNums p)) wb :=
  ⟨box_keep h.1 hb, h.2.1.below hb, h.2.2.1.below hb, h.2.2.2.1.below hb, h.2.2.2.2.1.below hb, conv_rd (h.2.1.below hb) rfl, conv_rd (h.2.2.1.below hb) rfl, conv_rd (h.2.2.2.1.below hb) rfl, conv_rd (h.2.2.2.2.1.below hb) rfl⟩
theorem refBytes_at (ao : Option Addr) (cap : Nat) (l q : List Int) (w : World) (hq : q = Plain.numL l.length ++ l) (hr : Rd w ao l) (hnil : ao = none → cap = 0) (hl : l.length + 10 ≤ 140737488355328) :
    Calls Try.prog 11 #[.slice ao l.length cap] w fun e w' => Made 5 w w' e q := by
  subst hq
  exact refBytes_any ao cap l w hr hnil hl
theorem refNumber_at (n : Nat) (q : List Int) (w : World) (hq : q = Plain.numL n) (hn : n < 18446744073709551616) :
    Calls Try.prog 12 #[.int .u64 n] w fun e w' => Made 5 w w' e q := by
  subst hq
  exact refNumber_any n w hn
theorem signed_at (n : Int) (q : List Int) (w : World) (hq : q = Plain.numL (Plain.fold n)) (h0 : -9223372036854775808 ≤ n) (h1 : n ≤ 9223372036854775807) :
    Calls Try.prog 13 #[.int .i64 n] w fun e w' => Made 5 w w' e q := by
  subst hq
  exact signed_any n w h0 h1
theorem refSigned_at (n : Int) (q : List Int) (w : World) (hq : q = Plain.numL (Plain.fold n)) (h0 : -9223372036854775808 ≤ n) (h1 : n ≤ 9223372036854775807) :
    Calls Try.prog 14 #[.int .i64 n] w fun e w' => Made 5 w w' e q := by
  subst hq
  exact refSigned_any n w h0 h1

set_option maxHeartbeats 4000000 in
set_option maxRecDepth 100000 in
theorem writes_walk (N : Nat) (S : Int) (F : Bool) (ao lo : Option Addr) (capB capl : Nat) (lB : List Int) (L : List (List Int)) (w : World)
    (hN : N < 18446744073709551616) (hS0 : -9223372036854775808 ≤ S) (hS1 : S ≤ 9223372036854775807)
    (rB : Rd w ao lB) (nB : ao = none → capB = 0) (zB : lB.length ≤ 1048576)
    (hp : Pieces w lo L) (hlen : L.length ≤ 1048576) (hsum : L.flatten.length ≤ 1048576) :
    Calls Try.prog 3 #[.agg #[.int .u64 N, .int .i64 S, .bool F, .slice ao lB.length capB], .slice lo L.length capl] w fun e w' => e = .returned (.bool true) ∧ Below w.heap.size w w' := by
  obtain ⟨i0, hi, hz0, hz1, hz2⟩ := info_parts Try.info5
  go_enter Try.func3, Try.ntmps3
  have hbox : Below w.heap.size w (w.alloc (.cells #[.int .u64 N, .int .i64 S, .bool F, .slice ao lB.length capB] 25)) := (Below.refl _ _).alloc (Nat.le_refl _) _
  have hbc : (w.alloc (.cells #[.int .u64 N, .int .i64 S, .bool F, .slice ao lB.length capB] 25)).cell? ⟨w.heap.size, 0, none⟩ = some (.int .u64 N) ∧ (w.alloc (.cells #[.int .u64 N, .int .i64 S, .bool F, .slice ao lB.length capB] 25)).cell? ⟨w.heap.size, 1, none⟩ = some (.int .i64 S) ∧ (w.alloc (.cells #[.int .u64 N, .int .i64 S, .bool F, .slice ao lB.length capB] 25)).cell? ⟨w.heap.size, 2, none⟩ = some (.bool F) ∧ (w.alloc (.cells #[.int .u64 N, .int .i64 S, .bool F, .slice ao lB.length capB] 25)).cell? ⟨w.heap.size, 3, none⟩ = some (.slice ao lB.length capB) := by simp [go_sem]
  go_wp2_with (first
    | (at_builtin; refine wpList_append_rd rfl (.const (.slice none 0 0)) (.tmp 16) 23 rfl (w.heap.size + 1) 5 i0 Try.underlying23 hi hz0 hz1 hz2 _ [] rfl (Own.nil 5 _ _) ao capB lB rfl nB (rB.below hbox) (by simp; omega) (by simp) ?_; intro oo1 co1 w1 hown1 hg1 hnil1; have b1 := below_own (l := []) (Below.refl (w.heap.size + 1) _) (by simp) (Own.nil 5 _ (w.heap.size + 1)) hg1; simp only [List.length_nil, Nat.zero_add, List.nil_append] at hown1 ⊢; have s1 := b1.size)
    | (at_builtin; refine wpList_push rfl (.tmp 17) (.tmp 18) 23 rfl (w.heap.size + 1) 5 i0 Try.underlying23 hi hz0 hz1 hz2 _ _ rfl (hown1.alloc _) ⟨w1.heap.size, 0, none⟩ 1 119 rfl (by simp [go_sem]) (by omega) (by simp at s1 ⊢; omega) ?_; intro oo2 co2 w2 hown2 hg2 hnil2; have b2 := below_own (b1.alloc (by simpa using s1) _) (by simp at s1 ⊢; omega) (hown1.alloc _) hg2))
  obtain ⟨fb, hfb⟩ : ∃ fb, fb = Plain.numL lB.length ++ lB := ⟨_, rfl⟩
  obtain ⟨fn, hfn⟩ : ∃ fn, fn = Plain.numL N := ⟨_, rfl⟩
  have HFB : Hid (fb = Plain.numL lB.length ++ lB) := hfb
  have HFN : Hid (fn = Plain.numL N) := hfn
  have zfb : fb.length ≤ 1048576 + 10 := by rw [hfb]; have := Plain.numL_ten lB.length (by omega); simp; omega
  have zfn : fn.length ≤ 10 := by rw [hfn]; exact Plain.numL_ten N hN
  clear hfb hfn
  have hb2 : Below w.heap.size w w2 := hbox.trans (b2.mono (by omega))
  have hbx2 := box_keep hbc (by simpa using b2)
  have bo2 : Blk oo2 (w.heap.size + 1) w2.heap.size := hown2.blk
  have ro2 := hown2.rd
  have co2l : lB.length + 1 ≤ co2 := by have := hown2.cap.1; simpa using this
  have co2i : (lB.length : Int) ≤ (co2 : Int) := by omega
  have ro2B : Rd w2 oo2 lB := by have := ro2.take lB.length; simpa using this
  have sz2 := hb2.size
  have szb2 : w.heap.size + 1 ≤ w2.heap.size := by have := b2.size; simpa using this
  clear hg1 hnil1 b1 hown1 s1 hg2 b2 hown2 hbc hbox
  go_region_held3 (fun w' => w'.cell? ⟨w.heap.size, 0, none⟩ = some (.int .u64 N) ∧ w'.cell? ⟨w.heap.size, 1, none⟩ = some (.int .i64 S) ∧ w'.cell? ⟨w.heap.size, 2, none⟩ = some (.bool F) ∧ w'.cell? ⟨w.heap.size, 3, none⟩ = some (.slice ao lB.length capB))
    (first | (exact box_keep (by assumption) (by assumption)) | (exact hbx2))
    (first
      | (go_at_call 8; have hA := ownA; refine (bytes_at oo2 co2 lB.length lB fb _ rfl HFB.out (ro2B.below bA) hnil2 (by omega)).mono ?_; rintro e w4 ⟨ob, cb, rfl, ownB, nilB, bB⟩)
      | (go_at_call 8; refine (bytes_at oo2 co2 lB.length lB fb _ rfl HFB.out (by exact ro2B) hnil2 (by omega)).mono ?_; rintro e w3 ⟨oa, ca, rfl, ownA, nilA, bA⟩; have bA := below_undrew bA))
  have hbx4 : w4.cell? ⟨w.heap.size, 0, none⟩ = some (.int .u64 N) ∧ w4.cell? ⟨w.heap.size, 1, none⟩ = some (.int .i64 S) ∧ w4.cell? ⟨w.heap.size, 2, none⟩ = some (.bool F) ∧ w4.cell? ⟨w.heap.size, 3, none⟩ = some (.slice ao lB.length capB) := by assumption
  have b24 : Below w2.heap.size w2 w4 := bA.trans (bB.mono bA.size)
  have blkA : Blk oa w2.heap.size w3.heap.size := ownA.blk
  have blkB : Blk ob w3.heap.size w4.heap.size := ownB.blk
  have ownA4 : Own 5 w4 w2.heap.size (.slice oa fb.length ca) fb := Own.below ownA bB
  have rB4 := ownB.rd
  have sz23 := bA.size
  have sz34 := bB.size
  clear bA bB ownA hA ownB hbx2 ro2B co2i
  go_wp2
  go_region_held3 (fun w' => w'.cell? ⟨w.heap.size, 0, none⟩ = some (.int .u64 N) ∧ w'.cell? ⟨w.heap.size, 1, none⟩ = some (.int .i64 S) ∧ w'.cell? ⟨w.heap.size, 2, none⟩ = some (.bool F) ∧ w'.cell? ⟨w.heap.size, 3, none⟩ = some (.slice ao lB.length capB))
    (first | (exact box_keep (by assumption) (by assumption)) | (exact hbx4))
    (first
      | (go_at_call 9; have hA := ownC; refine (number_at N fn _ HFN.out hN).mono ?_; rintro e w6 ⟨od, cd, rfl, ownD, nilD, bD⟩)
      | (go_at_call 9; refine (number_at N fn _ HFN.out hN).mono ?_; rintro e w5 ⟨oc, cc, rfl, ownC, nilC, bC⟩; have bC := below_undrew bC))
  have hbx6 : w6.cell? ⟨w.heap.size, 0, none⟩ = some (.int .u64 N) ∧ w6.cell? ⟨w.heap.size, 1, none⟩ = some (.int .i64 S) ∧ w6.cell? ⟨w.heap.size, 2, none⟩ = some (.bool F) ∧ w6.cell? ⟨w.heap.size, 3, none⟩ = some (.slice ao lB.length capB) := by assumption
  have b46 : Below w4.heap.size w4 w6 := bC.trans (bD.mono bC.size)
  have b26 : Below w2.heap.size w2 w6 := b24.trans (b46.mono b24.size)
  have blkC : Blk oc w4.heap.size w5.heap.size := ownC.blk
  have blkD : Blk od w5.heap.size w6.heap.size := ownD.blk
  have ownC6 : Own 5 w6 w4.heap.size (.slice oc fn.length cc) fn := Own.below ownC bD
  have ownA6 : Own 5 w6 w2.heap.size (.slice oa fb.length ca) fb := ownA4.below b46
  have rB6 := rB4.below b46
  have rD6 := ownD.rd
  have ro6 := ro2.below b26
  have hb6 : Below w.heap.size w w6 := hb2.trans (b26.mono sz2)
  have hp6 := hp.below hb6
  have sz45 := bC.size
  have sz56 := bD.size
  clear bC bD ownC hA ownD hbx4 ro2 b24 b46 b26 ownA4 rB4 hb2
  go_wp2
  go_loopw [10, 11] (fun v i wr => ∃ (k : Nat) (p : List Int) (ao' : Option Addr) (cap' : Nat), k ≤ L.length ∧ i = .int .i64 k ∧ p = (L.take k).flatten ∧ v = .slice ao' p.length cap' ∧ Own 5 wr w6.heap.size (.slice ao' p.length cap') p ∧ (ao' = none → cap' = 0) ∧ Below w6.heap.size w6 wr)
    (fun _ i _ => L.length - (intOf i).toNat)
  case atStart => exact ⟨0, [], none, 0, Nat.zero_le _, rfl, by simp, rfl, Own.nil _ _ _, by simp, Below.refl _ _⟩
  case round =>
    obtain ⟨k, p, oe, ce, hk, rfl, hpk, rfl, hown, hnil, hb⟩ := hrel
    have hsz := hb.size
    have HP : Hid (p = (L.take k).flatten) := hpk
    by_cases hlt : k < L.length
    · obtain ⟨l, hl⟩ : ∃ l, L[k]? = some l := ⟨_, List.getElem?_eq_getElem hlt⟩
      have hle : p.length + l.length ≤ 140737488355328 := by
        have h1 := flat_snoc L k l hl
        have h2 := flat_take_le L (k + 1)
        rw [h1, ← hpk, List.length_append] at h2
        omega
      have HL : Hid (L[k]? = some l) := hl
      obtain ⟨ab, aoff, aj, cj, rfl, hc, hr, hn⟩ := (hp6.below hb).at hl
      clear hl hpk
      go_wp2_with (at_builtin; refine wpList_append_rd rfl _ _ 23 rfl w6.heap.size 5 i0 Try.underlying23 hi hz0 hz1 hz2 _ _ rfl hown aj cj l rfl hn hr hle hsz ?_)
      intro ao1 cap1 w7 hown' hgrow hnil'
      have hb' := below_own hb hsz hown hgrow
      clear hgrow hown hr hc
      go_wp2
      go_roundw
      case rel => exact ⟨k + 1, p ++ l, ao1, cap1, by omega, by go_num, by rw [flat_snoc L k l HL.out, ← HP.out], by simp, by simpa using hown', hnil', hb'⟩
      case measure => simp [intOf]; omega
    · have he : p = L.flatten := by rw [hpk, List.take_of_length_le (by omega)]
      have HPL : Hid (p = L.flatten) := he
      clear hpk HP
      clear he
      have zp : p.length ≤ 1048576 := by rw [HPL.out]; exact hsum
      have blkE : Blk oe w6.heap.size wr.heap.size := hown.blk
      have ceE := hown.cap.1
      have ceM := hown.cap.2
      go_wp2_with fail
      refine (join_len lo capl L.length L p wr rfl HPL.out.symm (hp6.below hb) (by omega) (by omega)).mono ?_
      rintro e wJ ⟨oj, cj, rfl, ownJ, nilJ, bJ⟩
      have blkJ : Blk oj wr.heap.size wJ.heap.size := ownJ.blk
      have b6J : Below w6.heap.size w6 wJ := hb.trans (bJ.mono hsz)
      have rE := hown.rd.below bJ
      have rJ := ownJ.rd
      have ownA := ownA6.below b6J
      have ownC := ownC6.below b6J
      have rBJ := rB6.below b6J
      have rDJ := rD6.below b6J
      have roJ := ro6.below b6J
      have hbxJ := box_keep hbx6 b6J
      have hbJ : Below w.heap.size w wJ := hb6.trans (b6J.mono (by omega))
      have szJ := b6J.size
      have szrJ := bJ.size
      have szwJ := hbJ.size
      have rArg := rB.below hbJ
      obtain ⟨fs, hfs⟩ : ∃ fs, fs = Plain.numL (Plain.fold S) := ⟨_, rfl⟩
      have HFS : Hid (fs = Plain.numL (Plain.fold S)) := hfs
      clear hfs ownA6 ownC6 rB6 rD6 ro6 hbx6 hb6 hp6 hb bJ b6J hown
      go_upto_region 10 with fail
      go_cut [96] (fun c wx => c = .bool false ∧ Below wJ.heap.size wJ wx)
      case first =>
        have hS : (wJ.drew.cell? ⟨w.heap.size, 0, none⟩ = some (.int .u64 N) ∧ wJ.drew.cell? ⟨w.heap.size, 1, none⟩ = some (.int .i64 S) ∧ wJ.drew.cell? ⟨w.heap.size, 2, none⟩ = some (.bool F) ∧ wJ.drew.cell? ⟨w.heap.size, 3, none⟩ = some (.slice ao lB.length capB)) ∧ Rd wJ.drew oa fb ∧ Rd wJ.drew oc fn ∧ Rd wJ.drew oj p ∧ Rd wJ.drew oe p ∧ (convert 23 9 (.slice oa fb.length ca)).run Try.prog wJ.drew = .ok (.string (strOfNums fb)) wJ.drew ∧ (convert 23 9 (.slice oc fn.length cc)).run Try.prog wJ.drew = .ok (.string (strOfNums fn)) wJ.drew ∧ (convert 23 9 (.slice oj p.length cj)).run Try.prog wJ.drew = .ok (.string (strOfNums p)) wJ.drew ∧ (convert 23 9 (.slice oe p.length ce)).run Try.prog wJ.drew = .ok (.string (strOfNums p)) wJ.drew := ⟨hbxJ, ownA.rd, ownC.rd, rJ, rE, conv_rd (w := wJ.drew) ownA.rd rfl, conv_rd (w := wJ.drew) ownC.rd rfl, conv_rd (w := wJ.drew) rJ rfl, conv_rd (w := wJ.drew) rE rfl⟩
        refine wp_region_held_drew (S := (fun w' => (w'.cell? ⟨w.heap.size, 0, none⟩ = some (.int .u64 N) ∧ w'.cell? ⟨w.heap.size, 1, none⟩ = some (.int .i64 S) ∧ w'.cell? ⟨w.heap.size, 2, none⟩ = some (.bool F) ∧ w'.cell? ⟨w.heap.size, 3, none⟩ = some (.slice ao lB.length capB)) ∧ Rd w' oa fb ∧ Rd w' oc fn ∧ Rd w' oj p ∧ Rd w' oe p ∧ (convert 23 9 (.slice oa fb.length ca)).run Try.prog w' = .ok (.string (strOfNums fb)) w' ∧ (convert 23 9 (.slice oc fn.length cc)).run Try.prog w' = .ok (.string (strOfNums fn)) w' ∧ (convert 23 9 (.slice oj p.length cj)).run Try.prog w' = .ok (.string (strOfNums p)) w' ∧ (convert 23 9 (.slice oe p.length ce)).run Try.prog w' = .ok (.string (strOfNums p)) w')) (by kernel_rfl) (by exact hS) (fun hHeld => ?_)
        try dsimp only at hHeld
        refine take_op (i := 0) (d := 52) (OP := Go.Op.move (Go.Operand.tmp 6)) (T := 23) (v := ?vax1) rfl rfl rfl rfl (by kernel_rfl) (by kernel_rfl) (by kernel_rfl) (fun _ _ _ h => h) (by rfl) ?hax1 hHeld ?rax1
        case hax1 => (intro w' hSw; (try dsimp only at hSw); go_simp <;> with_reducible rfl)
        try simp only [Act.put, List.setIfInBounds_toArray, List.set_cons_zero, List.set_cons_succ]
        refine take_op (i := 1) (d := 53) (OP := Go.Op.convert 23 9 (Go.Operand.tmp 52)) (T := 9) (v := ?vax2) rfl rfl rfl rfl (by kernel_rfl) (by kernel_rfl) (by kernel_rfl) (fun _ _ _ h => h) (by rfl) ?hax2 hHeld ?rax2
        case hax2 => (intro w' hSw; (try dsimp only at hSw); go_simp <;> with_reducible rfl)
        try simp only [Act.put, List.setIfInBounds_toArray, List.set_cons_zero, List.set_cons_succ]
        refine take_op (i := 2) (d := 54) (OP := Go.Op.fieldAddr 25 (Go.Operand.tmp 2) 3) (T := 0) (v := ?vax3) rfl rfl rfl rfl (by kernel_rfl) (by kernel_rfl) (by kernel_rfl) (fun _ _ _ h => h) (by rfl) ?hax3 hHeld ?rax3
        case hax3 => (intro w' hSw; (try dsimp only at hSw); go_simp <;> with_reducible rfl)
        try simp only [Act.put, List.setIfInBounds_toArray, List.set_cons_zero, List.set_cons_succ]
        refine take_op (i := 3) (d := 55) (OP := Go.Op.load 23 (Go.Operand.tmp 54)) (T := 23) (v := ?vax4) rfl rfl rfl rfl (by kernel_rfl) (by kernel_rfl) (by kernel_rfl) (fun _ _ _ h => h) (by rfl) ?hax4 hHeld ?rax4
        case hax4 => (intro w' hSw; (try dsimp only at hSw); go_simp <;> with_reducible rfl)
        try simp only [Act.put, List.setIfInBounds_toArray, List.set_cons_zero, List.set_cons_succ]
        refine call_op (i := 4) (d := 56) (OP := Go.Op.call { callee := Go.Callee.value (Go.Operand.func 11), args := #[Go.Operand.tmp 55], argTypes := #[23] }) (T := 23) (f := 11) (args := #[.slice ao lB.length capB]) rfl rfl rfl rfl (by kernel_rfl) (by rfl) (by go_simp) ?_
        refine (refBytes_at ao capB lB fb _ HFB.out (by exact rArg) nB (by omega)).mono ?_
        rintro e wa ⟨o11, c11, rfl, own11, nil11, b11⟩
        have t11 := below_undrew b11
        have s11 := t11.size
        have v11 := conv_rd (n := fb.length) (cap := c11) own11.rd rfl
        refine ⟨_, rfl, (show (wa.cell? ⟨w.heap.size, 0, none⟩ = some (.int .u64 N) ∧ wa.cell? ⟨w.heap.size, 1, none⟩ = some (.int .i64 S) ∧ wa.cell? ⟨w.heap.size, 2, none⟩ = some (.bool F) ∧ wa.cell? ⟨w.heap.size, 3, none⟩ = some (.slice ao lB.length capB)) ∧ Rd wa oa fb ∧ Rd wa oc fn ∧ Rd wa oj p ∧ Rd wa oe p ∧ (convert 23 9 (.slice oa fb.length ca)).run Try.prog wa = .ok (.string (strOfNums fb)) wa ∧ (convert 23 9 (.slice oc fn.length cc)).run Try.prog wa = .ok (.string (strOfNums fn)) wa ∧ (convert 23 9 (.slice oj p.length cj)).run Try.prog wa = .ok (.string (strOfNums p)) wa ∧ (convert 23 9 (.slice oe p.length ce)).run Try.prog wa = .ok (.string (strOfNums p)) wa from (keep10 hHeld b11)), ?_⟩
        replace hHeld := (show (wa.cell? ⟨w.heap.size, 0, none⟩ = some (.int .u64 N) ∧ wa.cell? ⟨w.heap.size, 1, none⟩ = some (.int .i64 S) ∧ wa.cell? ⟨w.heap.size, 2, none⟩ = some (.bool F) ∧ wa.cell? ⟨w.heap.size, 3, none⟩ = some (.slice ao lB.length capB)) ∧ Rd wa oa fb ∧ Rd wa oc fn ∧ Rd wa oj p ∧ Rd wa oe p ∧ (convert 23 9 (.slice oa fb.length ca)).run Try.prog wa = .ok (.string (strOfNums fb)) wa ∧ (convert 23 9 (.slice oc fn.length cc)).run Try.prog wa = .ok (.string (strOfNums fn)) wa ∧ (convert 23 9 (.slice oj p.length cj)).run Try.prog wa = .ok (.string (strOfNums p)) wa ∧ (convert 23 9 (.slice oe p.length ce)).run Try.prog wa = .ok (.string (strOfNums p)) wa from (keep10 hHeld b11))
        try simp only [Act.put, List.setIfInBounds_toArray, List.set_cons_zero, List.set_cons_succ]
        refine alone_op (i := 5) (d := 57) (OP := Go.Op.convert 23 9 (Go.Operand.tmp 56)) (T := 9) (v := ?vax6) rfl rfl rfl rfl (by kernel_rfl) (by rfl) ?hax6 hHeld ?rax6
        case hax6 => (go_simp <;> with_reducible rfl)
        try simp only [Act.put, List.setIfInBounds_toArray, List.set_cons_zero, List.set_cons_succ]
        refine take_op (i := 6) (d := 58) (OP := Go.Op.binOp Go.BinOp.neq 9 (Go.Operand.tmp 53) (Go.Operand.tmp 57) 9) (T := 4) (v := ?vax7) rfl rfl rfl rfl (by kernel_rfl) (by kernel_rfl) (by kernel_rfl) (fun _ _ _ h => h) (by rfl) ?hax7 hHeld ?rax7
        case hax7 => (intro w' hSw; (try dsimp only at hSw); go_simp <;> with_reducible rfl)
        try simp only [Act.put, List.setIfInBounds_toArray, List.set_cons_zero, List.set_cons_succ]
        refine take_op (i := 7) (d := 59) (OP := Go.Op.move (Go.Operand.tmp 58)) (T := 4) (v := ?vax8) rfl rfl rfl rfl (by kernel_rfl) (by kernel_rfl) (by kernel_rfl) (fun _ _ _ h => h) (by rfl) ?hax8 hHeld ?rax8
        case hax8 => (intro w' hSw; (try dsimp only at hSw); go_simp <;> with_reducible rfl)
        try simp only [Act.put, List.setIfInBounds_toArray, List.set_cons_zero, List.set_cons_succ]
        refine take_op (i := 8) (d := 60) (OP := Go.Op.move (Go.Operand.tmp 8)) (T := 23) (v := ?vax9) rfl rfl rfl rfl (by kernel_rfl) (by kernel_rfl) (by kernel_rfl) (fun _ _ _ h => h) (by rfl) ?hax9 hHeld ?rax9
        case hax9 => (intro w' hSw; (try dsimp only at hSw); go_simp <;> with_reducible rfl)
        try simp only [Act.put, List.setIfInBounds_toArray, List.set_cons_zero, List.set_cons_succ]
        refine take_op (i := 9) (d := 61) (OP := Go.Op.convert 23 9 (Go.Operand.tmp 60)) (T := 9) (v := ?vax10) rfl rfl rfl rfl (by kernel_rfl) (by kernel_rfl) (by kernel_rfl) (fun _ _ _ h => h) (by rfl) ?hax10 hHeld ?rax10
        case hax10 => (intro w' hSw; (try dsimp only at hSw); go_simp <;> with_reducible rfl)
        try simp only [Act.put, List.setIfInBounds_toArray, List.set_cons_zero, List.set_cons_succ]
        refine take_op (i := 10) (d := 62) (OP := Go.Op.fieldAddr 25 (Go.Operand.tmp 2) 0) (T := 0) (v := ?vax11) rfl rfl rfl rfl (by kernel_rfl) (by kernel_rfl) (by kernel_rfl) (fun _ _ _ h => h) (by rfl) ?hax11 hHeld ?rax11
        case hax11 => (intro w' hSw; (try dsimp only at hSw); go_simp <;> with_reducible rfl)
        try simp only [Act.put, List.setIfInBounds_toArray, List.set_cons_zero, List.set_cons_succ]
        refine take_op (i := 11) (d := 63) (OP := Go.Op.load 22 (Go.Operand.tmp 62)) (T := 22) (v := ?vax12) rfl rfl rfl rfl (by kernel_rfl) (by kernel_rfl) (by kernel_rfl) (fun _ _ _ h => h) (by rfl) ?hax12 hHeld ?rax12
        case hax12 => (intro w' hSw; (try dsimp only at hSw); go_simp <;> with_reducible rfl)
        try simp only [Act.put, List.setIfInBounds_toArray, List.set_cons_zero, List.set_cons_succ]
        refine call_op (i := 12) (d := 64) (OP := Go.Op.call { callee := Go.Callee.value (Go.Operand.func 12), args := #[Go.Operand.tmp 63], argTypes := #[22] }) (T := 23) (f := 12) (args := #[.int .u64 N]) rfl rfl rfl rfl (by kernel_rfl) (by rfl) (by go_simp) ?_
        refine (refNumber_at N fn _ HFN.out hN).mono ?_
        rintro e wb ⟨o12, c12, rfl, own12, nil12, b12⟩
        have t12 := t11.trans (b12.mono s11)
        have s12 := t12.size
        have v12 := conv_rd (n := fn.length) (cap := c12) own12.rd rfl
        refine ⟨_, rfl, (show (wb.cell? ⟨w.heap.size, 0, none⟩ = some (.int .u64 N) ∧ wb.cell? ⟨w.heap.size, 1, none⟩ = some (.int .i64 S) ∧ wb.cell? ⟨w.heap.size, 2, none⟩ = some (.bool F) ∧ wb.cell? ⟨w.heap.size, 3, none⟩ = some (.slice ao lB.length capB)) ∧ Rd wb oa fb ∧ Rd wb oc fn ∧ Rd wb oj p ∧ Rd wb oe p ∧ (convert 23 9 (.slice oa fb.length ca)).run Try.prog wb = .ok (.string (strOfNums fb)) wb ∧ (convert 23 9 (.slice oc fn.length cc)).run Try.prog wb = .ok (.string (strOfNums fn)) wb ∧ (convert 23 9 (.slice oj p.length cj)).run Try.prog wb = .ok (.string (strOfNums p)) wb ∧ (convert 23 9 (.slice oe p.length ce)).run Try.prog wb = .ok (.string (strOfNums p)) wb from (keep10 hHeld b12)), ?_⟩
        replace hHeld := (show (wb.cell? ⟨w.heap.size, 0, none⟩ = some (.int .u64 N) ∧ wb.cell? ⟨w.heap.size, 1, none⟩ = some (.int .i64 S) ∧ wb.cell? ⟨w.heap.size, 2, none⟩ = some (.bool F) ∧ wb.cell? ⟨w.heap.size, 3, none⟩ = some (.slice ao lB.length capB)) ∧ Rd wb oa fb ∧ Rd wb oc fn ∧ Rd wb oj p ∧ Rd wb oe p ∧ (convert 23 9 (.slice oa fb.length ca)).run Try.prog wb = .ok (.string (strOfNums fb)) wb ∧ (convert 23 9 (.slice oc fn.length cc)).run Try.prog wb = .ok (.string (strOfNums fn)) wb ∧ (convert 23 9 (.slice oj p.length cj)).run Try.prog wb = .ok (.string (strOfNums p)) wb ∧ (convert 23 9 (.slice oe p.length ce)).run Try.prog wb = .ok (.string (strOfNums p)) wb from (keep10 hHeld b12))
        try simp only [Act.put, List.setIfInBounds_toArray, List.set_cons_zero, List.set_cons_succ]
        refine alone_op (i := 13) (d := 65) (OP := Go.Op.convert 23 9 (Go.Operand.tmp 64)) (T := 9) (v := ?vax14) rfl rfl rfl rfl (by kernel_rfl) (by rfl) ?hax14 hHeld ?rax14
        case hax14 => (go_simp <;> with_reducible rfl)
        try simp only [Act.put, List.setIfInBounds_toArray, List.set_cons_zero, List.set_cons_succ]
        refine take_op (i := 14) (d := 66) (OP := Go.Op.binOp Go.BinOp.neq 9 (Go.Operand.tmp 61) (Go.Operand.tmp 65) 9) (T := 4) (v := ?vax15) rfl rfl rfl rfl (by kernel_rfl) (by kernel_rfl) (by kernel_rfl) (fun _ _ _ h => h) (by rfl) ?hax15 hHeld ?rax15
        case hax15 => (intro w' hSw; (try dsimp only at hSw); go_simp <;> with_reducible rfl)
        try simp only [Act.put, List.setIfInBounds_toArray, List.set_cons_zero, List.set_cons_succ]
        refine take_op (i := 15) (d := 67) (OP := Go.Op.pick (Go.Operand.tmp 59) (Go.Operand.const (Go.Value.bool true)) (Go.Operand.tmp 66)) (T := 4) (v := ?vax16) rfl rfl rfl rfl (by kernel_rfl) (by kernel_rfl) (by kernel_rfl) (fun _ _ _ h => h) (by rfl) ?hax16 hHeld ?rax16
        case hax16 => (intro w' hSw; (try dsimp only at hSw); go_simp <;> with_reducible rfl)
        try simp only [Act.put, List.setIfInBounds_toArray, List.set_cons_zero, List.set_cons_succ]
        refine take_op (i := 16) (d := 68) (OP := Go.Op.move (Go.Operand.tmp 67)) (T := 4) (v := ?vax17) rfl rfl rfl rfl (by kernel_rfl) (by kernel_rfl) (by kernel_rfl) (fun _ _ _ h => h) (by rfl) ?hax17 hHeld ?rax17
        case hax17 => (intro w' hSw; (try dsimp only at hSw); go_simp <;> with_reducible rfl)
        try simp only [Act.put, List.setIfInBounds_toArray, List.set_cons_zero, List.set_cons_succ]
        refine take_op (i := 17) (d := 69) (OP := Go.Op.fieldAddr 25 (Go.Operand.tmp 2) 1) (T := 0) (v := ?vax18) rfl rfl rfl rfl (by kernel_rfl) (by kernel_rfl) (by kernel_rfl) (fun _ _ _ h => h) (by rfl) ?hax18 hHeld ?rax18
        case hax18 => (intro w' hSw; (try dsimp only at hSw); go_simp <;> with_reducible rfl)
        try simp only [Act.put, List.setIfInBounds_toArray, List.set_cons_zero, List.set_cons_succ]
        refine take_op (i := 18) (d := 70) (OP := Go.Op.load 2 (Go.Operand.tmp 69)) (T := 2) (v := ?vax19) rfl rfl rfl rfl (by kernel_rfl) (by kernel_rfl) (by kernel_rfl) (fun _ _ _ h => h) (by rfl) ?hax19 hHeld ?rax19
        case hax19 => (intro w' hSw; (try dsimp only at hSw); go_simp <;> with_reducible rfl)
        try simp only [Act.put, List.setIfInBounds_toArray, List.set_cons_zero, List.set_cons_succ]
        refine take_op (i := 21) (d := 73) (OP := Go.Op.fieldAddr 25 (Go.Operand.tmp 2) 1) (T := 0) (v := ?vax20) rfl rfl rfl rfl (by kernel_rfl) (by kernel_rfl) (by kernel_rfl) (fun _ _ _ h => h) (by rfl) ?hax20 hHeld ?rax20
        case hax20 => (intro w' hSw; (try dsimp only at hSw); go_simp <;> with_reducible rfl)
        try simp only [Act.put, List.setIfInBounds_toArray, List.set_cons_zero, List.set_cons_succ]
        refine take_op (i := 22) (d := 74) (OP := Go.Op.load 2 (Go.Operand.tmp 73)) (T := 2) (v := ?vax21) rfl rfl rfl rfl (by kernel_rfl) (by kernel_rfl) (by kernel_rfl) (fun _ _ _ h => h) (by rfl) ?hax21 hHeld ?rax21
        case hax21 => (intro w' hSw; (try dsimp only at hSw); go_simp <;> with_reducible rfl)
        try simp only [Act.put, List.setIfInBounds_toArray, List.set_cons_zero, List.set_cons_succ]
        refine call_op (i := 19) (d := 71) (OP := Go.Op.call { callee := Go.Callee.value (Go.Operand.func 13), args := #[Go.Operand.tmp 70], argTypes := #[2] }) (T := 23) (f := 13) (args := #[.int .i64 S]) rfl rfl rfl rfl (by kernel_rfl) (by rfl) (by go_simp) ?_
        refine (signed_at S fs _ HFS.out hS0 hS1).mono ?_
        rintro e wc ⟨o13, c13, rfl, own13, nil13, b13⟩
        have t13 := t12.trans (b13.mono s12)
        have s13 := t13.size
        refine ⟨_, rfl, (show (wc.cell? ⟨w.heap.size, 0, none⟩ = some (.int .u64 N) ∧ wc.cell? ⟨w.heap.size, 1, none⟩ = some (.int .i64 S) ∧ wc.cell? ⟨w.heap.size, 2, none⟩ = some (.bool F) ∧ wc.cell? ⟨w.heap.size, 3, none⟩ = some (.slice ao lB.length capB)) ∧ Rd wc oa fb ∧ Rd wc oc fn ∧ Rd wc oj p ∧ Rd wc oe p ∧ (convert 23 9 (.slice oa fb.length ca)).run Try.prog wc = .ok (.string (strOfNums fb)) wc ∧ (convert 23 9 (.slice oc fn.length cc)).run Try.prog wc = .ok (.string (strOfNums fn)) wc ∧ (convert 23 9 (.slice oj p.length cj)).run Try.prog wc = .ok (.string (strOfNums p)) wc ∧ (convert 23 9 (.slice oe p.length ce)).run Try.prog wc = .ok (.string (strOfNums p)) wc from (keep10 hHeld b13)), ?_⟩
        replace hHeld := (show (wc.cell? ⟨w.heap.size, 0, none⟩ = some (.int .u64 N) ∧ wc.cell? ⟨w.heap.size, 1, none⟩ = some (.int .i64 S) ∧ wc.cell? ⟨w.heap.size, 2, none⟩ = some (.bool F) ∧ wc.cell? ⟨w.heap.size, 3, none⟩ = some (.slice ao lB.length capB)) ∧ Rd wc oa fb ∧ Rd wc oc fn ∧ Rd wc oj p ∧ Rd wc oe p ∧ (convert 23 9 (.slice oa fb.length ca)).run Try.prog wc = .ok (.string (strOfNums fb)) wc ∧ (convert 23 9 (.slice oc fn.length cc)).run Try.prog wc = .ok (.string (strOfNums fn)) wc ∧ (convert 23 9 (.slice oj p.length cj)).run Try.prog wc = .ok (.string (strOfNums p)) wc ∧ (convert 23 9 (.slice oe p.length ce)).run Try.prog wc = .ok (.string (strOfNums p)) wc from (keep10 hHeld b13))
        try simp only [Act.put, List.setIfInBounds_toArray, List.set_cons_zero, List.set_cons_succ]
        refine wpAnyH_mono (S' := (fun w' => ((w'.cell? ⟨w.heap.size, 0, none⟩ = some (.int .u64 N) ∧ w'.cell? ⟨w.heap.size, 1, none⟩ = some (.int .i64 S) ∧ w'.cell? ⟨w.heap.size, 2, none⟩ = some (.bool F) ∧ w'.cell? ⟨w.heap.size, 3, none⟩ = some (.slice ao lB.length capB)) ∧ Rd w' oa fb ∧ Rd w' oc fn ∧ Rd w' oj p ∧ Rd w' oe p ∧ (convert 23 9 (.slice oa fb.length ca)).run Try.prog w' = .ok (.string (strOfNums fb)) w' ∧ (convert 23 9 (.slice oc fn.length cc)).run Try.prog w' = .ok (.string (strOfNums fn)) w' ∧ (convert 23 9 (.slice oj p.length cj)).run Try.prog w' = .ok (.string (strOfNums p)) w' ∧ (convert 23 9 (.slice oe p.length ce)).run Try.prog w' = .ok (.string (strOfNums p)) w') ∧ Rd w' o13 fs ∧ (convert 23 9 (.slice o13 fs.length c13)).run Try.prog w' = .ok (.string (strOfNums fs)) w')) (fun _ h => h.1) ?_
        replace hHeld := (show ((wc.cell? ⟨w.heap.size, 0, none⟩ = some (.int .u64 N) ∧ wc.cell? ⟨w.heap.size, 1, none⟩ = some (.int .i64 S) ∧ wc.cell? ⟨w.heap.size, 2, none⟩ = some (.bool F) ∧ wc.cell? ⟨w.heap.size, 3, none⟩ = some (.slice ao lB.length capB)) ∧ Rd wc oa fb ∧ Rd wc oc fn ∧ Rd wc oj p ∧ Rd wc oe p ∧ (convert 23 9 (.slice oa fb.length ca)).run Try.prog wc = .ok (.string (strOfNums fb)) wc ∧ (convert 23 9 (.slice oc fn.length cc)).run Try.prog wc = .ok (.string (strOfNums fn)) wc ∧ (convert 23 9 (.slice oj p.length cj)).run Try.prog wc = .ok (.string (strOfNums p)) wc ∧ (convert 23 9 (.slice oe p.length ce)).run Try.prog wc = .ok (.string (strOfNums p)) wc) ∧ Rd wc o13 fs ∧ (convert 23 9 (.slice o13 fs.length c13)).run Try.prog wc = .ok (.string (strOfNums fs)) wc from ⟨hHeld, own13.rd, conv_rd own13.rd rfl⟩)
        refine take_op (i := 20) (d := 72) (OP := Go.Op.convert 23 9 (Go.Operand.tmp 71)) (T := 9) (v := ?vax24) rfl rfl rfl rfl (by kernel_rfl) (by kernel_rfl) (by kernel_rfl) (fun _ _ _ h => h) (by rfl) ?hax24 hHeld ?rax24
        case hax24 => (intro w' hSw; (try dsimp only at hSw); go_simp <;> with_reducible rfl)
        try simp only [Act.put, List.setIfInBounds_toArray, List.set_cons_zero, List.set_cons_succ]
        refine call_op (i := 23) (d := 75) (OP := Go.Op.call { callee := Go.Callee.value (Go.Operand.func 14), args := #[Go.Operand.tmp 74], argTypes := #[2] }) (T := 23) (f := 14) (args := #[.int .i64 S]) rfl rfl rfl rfl (by kernel_rfl) (by rfl) (by go_simp) ?_
        refine (refSigned_at S fs _ HFS.out hS0 hS1).mono ?_
        rintro e wd ⟨o14, c14, rfl, own14, nil14, b14⟩
        have t14 := t13.trans (b14.mono s13)
        have s14 := t14.size
        have v14 := conv_rd (n := fs.length) (cap := c14) own14.rd rfl
        refine ⟨_, rfl, (show ((wd.cell? ⟨w.heap.size, 0, none⟩ = some (.int .u64 N) ∧ wd.cell? ⟨w.heap.size, 1, none⟩ = some (.int .i64 S) ∧ wd.cell? ⟨w.heap.size, 2, none⟩ = some (.bool F) ∧ wd.cell? ⟨w.heap.size, 3, none⟩ = some (.slice ao lB.length capB)) ∧ Rd wd oa fb ∧ Rd wd oc fn ∧ Rd wd oj p ∧ Rd wd oe p ∧ (convert 23 9 (.slice oa fb.length ca)).run Try.prog wd = .ok (.string (strOfNums fb)) wd ∧ (convert 23 9 (.slice oc fn.length cc)).run Try.prog wd = .ok (.string (strOfNums fn)) wd ∧ (convert 23 9 (.slice oj p.length cj)).run Try.prog wd = .ok (.string (strOfNums p)) wd ∧ (convert 23 9 (.slice oe p.length ce)).run Try.prog wd = .ok (.string (strOfNums p)) wd) ∧ Rd wd o13 fs ∧ (convert 23 9 (.slice o13 fs.length c13)).run Try.prog wd = .ok (.string (strOfNums fs)) wd from ⟨keep10 hHeld.1 b14, hHeld.2.1.below b14, conv_rd (hHeld.2.1.below b14) rfl⟩), ?_⟩
        replace hHeld := (show ((wd.cell? ⟨w.heap.size, 0, none⟩ = some (.int .u64 N) ∧ wd.cell? ⟨w.heap.size, 1, none⟩ = some (.int .i64 S) ∧ wd.cell? ⟨w.heap.size, 2, none⟩ = some (.bool F) ∧ wd.cell? ⟨w.heap.size, 3, none⟩ = some (.slice ao lB.length capB)) ∧ Rd wd oa fb ∧ Rd wd oc fn ∧ Rd wd oj p ∧ Rd wd oe p ∧ (convert 23 9 (.slice oa fb.length ca)).run Try.prog wd = .ok (.string (strOfNums fb)) wd ∧ (convert 23 9 (.slice oc fn.length cc)).run Try.prog wd = .ok (.string (strOfNums fn)) wd ∧ (convert 23 9 (.slice oj p.length cj)).run Try.prog wd = .ok (.string (strOfNums p)) wd ∧ (convert 23 9 (.slice oe p.length ce)).run Try.prog wd = .ok (.string (strOfNums p)) wd) ∧ Rd wd o13 fs ∧ (convert 23 9 (.slice o13 fs.length c13)).run Try.prog wd = .ok (.string (strOfNums fs)) wd from ⟨keep10 hHeld.1 b14, hHeld.2.1.below b14, conv_rd (hHeld.2.1.below b14) rfl⟩)
        try simp only [Act.put, List.setIfInBounds_toArray, List.set_cons_zero, List.set_cons_succ]
        refine alone_op (i := 24) (d := 76) (OP := Go.Op.convert 23 9 (Go.Operand.tmp 75)) (T := 9) (v := ?vax26) rfl rfl rfl rfl (by kernel_rfl) (by rfl) ?hax26 hHeld ?rax26
        case hax26 => (go_simp <;> with_reducible rfl)
        try simp only [Act.put, List.setIfInBounds_toArray, List.set_cons_zero, List.set_cons_succ]
        refine take_op (i := 25) (d := 77) (OP := Go.Op.binOp Go.BinOp.neq 9 (Go.Operand.tmp 72) (Go.Operand.tmp 76) 9) (T := 4) (v := ?vax27) rfl rfl rfl rfl (by kernel_rfl) (by kernel_rfl) (by kernel_rfl) (fun _ _ _ h => h) (by rfl) ?hax27 hHeld ?rax27
        case hax27 => (intro w' hSw; (try dsimp only at hSw); go_simp <;> with_reducible rfl)
        try simp only [Act.put, List.setIfInBounds_toArray, List.set_cons_zero, List.set_cons_succ]
        refine take_op (i := 26) (d := 78) (OP := Go.Op.pick (Go.Operand.tmp 68) (Go.Operand.const (Go.Value.bool true)) (Go.Operand.tmp 77)) (T := 4) (v := ?vax28) rfl rfl rfl rfl (by kernel_rfl) (by kernel_rfl) (by kernel_rfl) (fun _ _ _ h => h) (by rfl) ?hax28 hHeld ?rax28
        case hax28 => (intro w' hSw; (try dsimp only at hSw); go_simp <;> with_reducible rfl)
        try simp only [Act.put, List.setIfInBounds_toArray, List.set_cons_zero, List.set_cons_succ]
        refine take_op (i := 27) (d := 79) (OP := Go.Op.move (Go.Operand.tmp 78)) (T := 4) (v := ?vax29) rfl rfl rfl rfl (by kernel_rfl) (by kernel_rfl) (by kernel_rfl) (fun _ _ _ h => h) (by rfl) ?hax29 hHeld ?rax29
        case hax29 => (intro w' hSw; (try dsimp only at hSw); go_simp <;> with_reducible rfl)
        try simp only [Act.put, List.setIfInBounds_toArray, List.set_cons_zero, List.set_cons_succ]
        refine take_op (i := 28) (d := 80) (OP := Go.Op.fieldAddr 25 (Go.Operand.tmp 2) 2) (T := 0) (v := ?vax30) rfl rfl rfl rfl (by kernel_rfl) (by kernel_rfl) (by kernel_rfl) (fun _ _ _ h => h) (by rfl) ?hax30 hHeld ?rax30
        case hax30 => (intro w' hSw; (try dsimp only at hSw); go_simp <;> with_reducible rfl)
        try simp only [Act.put, List.setIfInBounds_toArray, List.set_cons_zero, List.set_cons_succ]
        refine take_op (i := 29) (d := 81) (OP := Go.Op.load 4 (Go.Operand.tmp 80)) (T := 4) (v := ?vax31) rfl rfl rfl rfl (by kernel_rfl) (by kernel_rfl) (by kernel_rfl) (fun _ _ _ h => h) (by rfl) ?hax31 hHeld ?rax31
        case hax31 => (intro w' hSw; (try dsimp only at hSw); go_simp <;> with_reducible rfl)
        try simp only [Act.put, List.setIfInBounds_toArray, List.set_cons_zero, List.set_cons_succ]
        refine take_op (i := 32) (d := 84) (OP := Go.Op.fieldAddr 25 (Go.Operand.tmp 2) 2) (T := 0) (v := ?vax32) rfl rfl rfl rfl (by kernel_rfl) (by kernel_rfl) (by kernel_rfl) (fun _ _ _ h => h) (by rfl) ?hax32 hHeld ?rax32
        case hax32 => (intro w' hSw; (try dsimp only at hSw); go_simp <;> with_reducible rfl)
        try simp only [Act.put, List.setIfInBounds_toArray, List.set_cons_zero, List.set_cons_succ]
        refine take_op (i := 33) (d := 85) (OP := Go.Op.load 4 (Go.Operand.tmp 84)) (T := 4) (v := ?vax33) rfl rfl rfl rfl (by kernel_rfl) (by kernel_rfl) (by kernel_rfl) (fun _ _ _ h => h) (by rfl) ?hax33 hHeld ?rax33
        case hax33 => (intro w' hSw; (try dsimp only at hSw); go_simp <;> with_reducible rfl)
        try simp only [Act.put, List.setIfInBounds_toArray, List.set_cons_zero, List.set_cons_succ]
        refine call_op (i := 30) (d := 82) (OP := Go.Op.call { callee := Go.Callee.value (Go.Operand.func 15), args := #[Go.Operand.tmp 81], argTypes := #[4] }) (T := 23) (f := 15) (args := #[.bool F]) rfl rfl rfl rfl (by kernel_rfl) (by rfl) (by go_simp) ?_
        refine (flag_any F _).mono ?_
        rintro e we ⟨o15, c15, rfl, own15, nil15, b15⟩
        have t15 := t14.trans (b15.mono s14)
        have s15 := t15.size
        refine ⟨_, rfl, (show ((we.cell? ⟨w.heap.size, 0, none⟩ = some (.int .u64 N) ∧ we.cell? ⟨w.heap.size, 1, none⟩ = some (.int .i64 S) ∧ we.cell? ⟨w.heap.size, 2, none⟩ = some (.bool F) ∧ we.cell? ⟨w.heap.size, 3, none⟩ = some (.slice ao lB.length capB)) ∧ Rd we oa fb ∧ Rd we oc fn ∧ Rd we oj p ∧ Rd we oe p ∧ (convert 23 9 (.slice oa fb.length ca)).run Try.prog we = .ok (.string (strOfNums fb)) we ∧ (convert 23 9 (.slice oc fn.length cc)).run Try.prog we = .ok (.string (strOfNums fn)) we ∧ (convert 23 9 (.slice oj p.length cj)).run Try.prog we = .ok (.string (strOfNums p)) we ∧ (convert 23 9 (.slice oe p.length ce)).run Try.prog we = .ok (.string (strOfNums p)) we) ∧ Rd we o13 fs ∧ (convert 23 9 (.slice o13 fs.length c13)).run Try.prog we = .ok (.string (strOfNums fs)) we from ⟨keep10 hHeld.1 b15, hHeld.2.1.below b15, conv_rd (hHeld.2.1.below b15) rfl⟩), ?_⟩
        replace hHeld := (show ((we.cell? ⟨w.heap.size, 0, none⟩ = some (.int .u64 N) ∧ we.cell? ⟨w.heap.size, 1, none⟩ = some (.int .i64 S) ∧ we.cell? ⟨w.heap.size, 2, none⟩ = some (.bool F) ∧ we.cell? ⟨w.heap.size, 3, none⟩ = some (.slice ao lB.length capB)) ∧ Rd we oa fb ∧ Rd we oc fn ∧ Rd we oj p ∧ Rd we oe p ∧ (convert 23 9 (.slice oa fb.length ca)).run Try.prog we = .ok (.string (strOfNums fb)) we ∧ (convert 23 9 (.slice oc fn.length cc)).run Try.prog we = .ok (.string (strOfNums fn)) we ∧ (convert 23 9 (.slice oj p.length cj)).run Try.prog we = .ok (.string (strOfNums p)) we ∧ (convert 23 9 (.slice oe p.length ce)).run Try.prog we = .ok (.string (strOfNums p)) we) ∧ Rd we o13 fs ∧ (convert 23 9 (.slice o13 fs.length c13)).run Try.prog we = .ok (.string (strOfNums fs)) we from ⟨keep10 hHeld.1 b15, hHeld.2.1.below b15, conv_rd (hHeld.2.1.below b15) rfl⟩)
        try simp only [Act.put, List.setIfInBounds_toArray, List.set_cons_zero, List.set_cons_succ]
        refine wpAnyH_mono (S' := (fun w' => (((w'.cell? ⟨w.heap.size, 0, none⟩ = some (.int .u64 N) ∧ w'.cell? ⟨w.heap.size, 1, none⟩ = some (.int .i64 S) ∧ w'.cell? ⟨w.heap.size, 2, none⟩ = some (.bool F) ∧ w'.cell? ⟨w.heap.size, 3, none⟩ = some (.slice ao lB.length capB)) ∧ Rd w' oa fb ∧ Rd w' oc fn ∧ Rd w' oj p ∧ Rd w' oe p ∧ (convert 23 9 (.slice oa fb.length ca)).run Try.prog w' = .ok (.string (strOfNums fb)) w' ∧ (convert 23 9 (.slice oc fn.length cc)).run Try.prog w' = .ok (.string (strOfNums fn)) w' ∧ (convert 23 9 (.slice oj p.length cj)).run Try.prog w' = .ok (.string (strOfNums p)) w' ∧ (convert 23 9 (.slice oe p.length ce)).run Try.prog w' = .ok (.string (strOfNums p)) w') ∧ Rd w' o13 fs ∧ (convert 23 9 (.slice o13 fs.length c13)).run Try.prog w' = .ok (.string (strOfNums fs)) w') ∧ Rd w' o15 (flagL F) ∧ (convert 23 9 (.slice o15 (flagL F).length c15)).run Try.prog w' = .ok (.string (strOfNums (flagL F))) w')) (fun _ h => h.1) ?_
        replace hHeld := (show (((we.cell? ⟨w.heap.size, 0, none⟩ = some (.int .u64 N) ∧ we.cell? ⟨w.heap.size, 1, none⟩ = some (.int .i64 S) ∧ we.cell? ⟨w.heap.size, 2, none⟩ = some (.bool F) ∧ we.cell? ⟨w.heap.size, 3, none⟩ = some (.slice ao lB.length capB)) ∧ Rd we oa fb ∧ Rd we oc fn ∧ Rd we oj p ∧ Rd we oe p ∧ (convert 23 9 (.slice oa fb.length ca)).run Try.prog we = .ok (.string (strOfNums fb)) we ∧ (convert 23 9 (.slice oc fn.length cc)).run Try.prog we = .ok (.string (strOfNums fn)) we ∧ (convert 23 9 (.slice oj p.length cj)).run Try.prog we = .ok (.string (strOfNums p)) we ∧ (convert 23 9 (.slice oe p.length ce)).run Try.prog we = .ok (.string (strOfNums p)) we) ∧ Rd we o13 fs ∧ (convert 23 9 (.slice o13 fs.length c13)).run Try.prog we = .ok (.string (strOfNums fs)) we) ∧ Rd we o15 (flagL F) ∧ (convert 23 9 (.slice o15 (flagL F).length c15)).run Try.prog we = .ok (.string (strOfNums (flagL F))) we from ⟨hHeld, own15.rd, conv_rd own15.rd rfl⟩)
        refine take_op (i := 31) (d := 83) (OP := Go.Op.convert 23 9 (Go.Operand.tmp 82)) (T := 9) (v := ?vax36) rfl rfl rfl rfl (by kernel_rfl) (by kernel_rfl) (by kernel_rfl) (fun _ _ _ h => h) (by rfl) ?hax36 hHeld ?rax36
        case hax36 => (intro w' hSw; (try dsimp only at hSw); go_simp <;> with_reducible rfl)
        try simp only [Act.put, List.setIfInBounds_toArray, List.set_cons_zero, List.set_cons_succ]
        refine call_op (i := 34) (d := 86) (OP := Go.Op.call { callee := Go.Callee.value (Go.Operand.func 16), args := #[Go.Operand.tmp 85], argTypes := #[4] }) (T := 23) (f := 16) (args := #[.bool F]) rfl rfl rfl rfl (by kernel_rfl) (by rfl) (by go_simp) ?_
        refine (refFlag_any F _).mono ?_
        rintro e wf ⟨o16, c16, rfl, own16, nil16, b16⟩
        have t16 := t15.trans (b16.mono s15)
        have v16 := conv_rd (n := (flagL F).length) (cap := c16) own16.rd rfl
        refine ⟨_, rfl, (show (((wf.cell? ⟨w.heap.size, 0, none⟩ = some (.int .u64 N) ∧ wf.cell? ⟨w.heap.size, 1, none⟩ = some (.int .i64 S) ∧ wf.cell? ⟨w.heap.size, 2, none⟩ = some (.bool F) ∧ wf.cell? ⟨w.heap.size, 3, none⟩ = some (.slice ao lB.length capB)) ∧ Rd wf oa fb ∧ Rd wf oc fn ∧ Rd wf oj p ∧ Rd wf oe p ∧ (convert 23 9 (.slice oa fb.length ca)).run Try.prog wf = .ok (.string (strOfNums fb)) wf ∧ (convert 23 9 (.slice oc fn.length cc)).run Try.prog wf = .ok (.string (strOfNums fn)) wf ∧ (convert 23 9 (.slice oj p.length cj)).run Try.prog wf = .ok (.string (strOfNums p)) wf ∧ (convert 23 9 (.slice oe p.length ce)).run Try.prog wf = .ok (.string (strOfNums p)) wf) ∧ Rd wf o13 fs ∧ (convert 23 9 (.slice o13 fs.length c13)).run Try.prog wf = .ok (.string (strOfNums fs)) wf) ∧ Rd wf o15 (flagL F) ∧ (convert 23 9 (.slice o15 (flagL F).length c15)).run Try.prog wf = .ok (.string (strOfNums (flagL F))) wf from ⟨⟨keep10 hHeld.1.1 b16, hHeld.1.2.1.below b16, conv_rd (hHeld.1.2.1.below b16) rfl⟩, hHeld.2.1.below b16, conv_rd (hHeld.2.1.below b16) rfl⟩), ?_⟩
        replace hHeld := (show (((wf.cell? ⟨w.heap.size, 0, none⟩ = some (.int .u64 N) ∧ wf.cell? ⟨w.heap.size, 1, none⟩ = some (.int .i64 S) ∧ wf.cell? ⟨w.heap.size, 2, none⟩ = some (.bool F) ∧ wf.cell? ⟨w.heap.size, 3, none⟩ = some (.slice ao lB.length capB)) ∧ Rd wf oa fb ∧ Rd wf oc fn ∧ Rd wf oj p ∧ Rd wf oe p ∧ (convert 23 9 (.slice oa fb.length ca)).run Try.prog wf = .ok (.string (strOfNums fb)) wf ∧ (convert 23 9 (.slice oc fn.length cc)).run Try.prog wf = .ok (.string (strOfNums fn)) wf ∧ (convert 23 9 (.slice oj p.length cj)).run Try.prog wf = .ok (.string (strOfNums p)) wf ∧ (convert 23 9 (.slice oe p.length ce)).run Try.prog wf = .ok (.string (strOfNums p)) wf) ∧ Rd wf o13 fs ∧ (convert 23 9 (.slice o13 fs.length c13)).run Try.prog wf = .ok (.string (strOfNums fs)) wf) ∧ Rd wf o15 (flagL F) ∧ (convert 23 9 (.slice o15 (flagL F).length c15)).run Try.prog wf = .ok (.string (strOfNums (flagL F))) wf from ⟨⟨keep10 hHeld.1.1 b16, hHeld.1.2.1.below b16, conv_rd (hHeld.1.2.1.below b16) rfl⟩, hHeld.2.1.below b16, conv_rd (hHeld.2.1.below b16) rfl⟩)
        try simp only [Act.put, List.setIfInBounds_toArray, List.set_cons_zero, List.set_cons_succ]
        refine alone_op (i := 35) (d := 87) (OP := Go.Op.convert 23 9 (Go.Operand.tmp 86)) (T := 9) (v := ?vax38) rfl rfl rfl rfl (by kernel_rfl) (by rfl) ?hax38 hHeld ?rax38
        case hax38 => (go_simp <;> with_reducible rfl)
        try simp only [Act.put, List.setIfInBounds_toArray, List.set_cons_zero, List.set_cons_succ]
        refine take_op (i := 36) (d := 88) (OP := Go.Op.binOp Go.BinOp.neq 9 (Go.Operand.tmp 83) (Go.Operand.tmp 87) 9) (T := 4) (v := ?vax39) rfl rfl rfl rfl (by kernel_rfl) (by kernel_rfl) (by kernel_rfl) (fun _ _ _ h => h) (by rfl) ?hax39 hHeld ?rax39
        case hax39 => (intro w' hSw; (try dsimp only at hSw); go_simp <;> with_reducible rfl)
        try simp only [Act.put, List.setIfInBounds_toArray, List.set_cons_zero, List.set_cons_succ]
        refine take_op (i := 37) (d := 89) (OP := Go.Op.pick (Go.Operand.tmp 79) (Go.Operand.const (Go.Value.bool true)) (Go.Operand.tmp 88)) (T := 4) (v := ?vax40) rfl rfl rfl rfl (by kernel_rfl) (by kernel_rfl) (by kernel_rfl) (fun _ _ _ h => h) (by rfl) ?hax40 hHeld ?rax40
        case hax40 => (intro w' hSw; (try dsimp only at hSw); go_simp <;> with_reducible rfl)
        try simp only [Act.put, List.setIfInBounds_toArray, List.set_cons_zero, List.set_cons_succ]
        refine take_op (i := 38) (d := 90) (OP := Go.Op.move (Go.Operand.tmp 89)) (T := 4) (v := ?vax41) rfl rfl rfl rfl (by kernel_rfl) (by kernel_rfl) (by kernel_rfl) (fun _ _ _ h => h) (by rfl) ?hax41 hHeld ?rax41
        case hax41 => (intro w' hSw; (try dsimp only at hSw); go_simp <;> with_reducible rfl)
        try simp only [Act.put, List.setIfInBounds_toArray, List.set_cons_zero, List.set_cons_succ]
        refine take_op (i := 39) (d := 91) (OP := Go.Op.move (Go.Operand.tmp 12)) (T := 23) (v := ?vax42) rfl rfl rfl rfl (by kernel_rfl) (by kernel_rfl) (by kernel_rfl) (fun _ _ _ h => h) (by rfl) ?hax42 hHeld ?rax42
        case hax42 => (intro w' hSw; (try dsimp only at hSw); go_simp <;> with_reducible rfl)
        try simp only [Act.put, List.setIfInBounds_toArray, List.set_cons_zero, List.set_cons_succ]
        refine take_op (i := 40) (d := 92) (OP := Go.Op.convert 23 9 (Go.Operand.tmp 91)) (T := 9) (v := ?vax43) rfl rfl rfl rfl (by kernel_rfl) (by kernel_rfl) (by kernel_rfl) (fun _ _ _ h => h) (by rfl) ?hax43 hHeld ?rax43
        case hax43 => (intro w' hSw; (try dsimp only at hSw); go_simp <;> with_reducible rfl)
        try simp only [Act.put, List.setIfInBounds_toArray, List.set_cons_zero, List.set_cons_succ]
        refine take_op (i := 41) (d := 93) (OP := Go.Op.move (Go.Operand.tmp 10)) (T := 23) (v := ?vax44) rfl rfl rfl rfl (by kernel_rfl) (by kernel_rfl) (by kernel_rfl) (fun _ _ _ h => h) (by rfl) ?hax44 hHeld ?rax44
        case hax44 => (intro w' hSw; (try dsimp only at hSw); go_simp <;> with_reducible rfl)
        try simp only [Act.put, List.setIfInBounds_toArray, List.set_cons_zero, List.set_cons_succ]
        refine take_op (i := 42) (d := 94) (OP := Go.Op.convert 23 9 (Go.Operand.tmp 93)) (T := 9) (v := ?vax45) rfl rfl rfl rfl (by kernel_rfl) (by kernel_rfl) (by kernel_rfl) (fun _ _ _ h => h) (by rfl) ?hax45 hHeld ?rax45
        case hax45 => (intro w' hSw; (try dsimp only at hSw); go_simp <;> with_reducible rfl)
        try simp only [Act.put, List.setIfInBounds_toArray, List.set_cons_zero, List.set_cons_succ]
        refine take_op (i := 43) (d := 95) (OP := Go.Op.binOp Go.BinOp.neq 9 (Go.Operand.tmp 92) (Go.Operand.tmp 94) 9) (T := 4) (v := ?vax46) rfl rfl rfl rfl (by kernel_rfl) (by kernel_rfl) (by kernel_rfl) (fun _ _ _ h => h) (by rfl) ?hax46 hHeld ?rax46
        case hax46 => (intro w' hSw; (try dsimp only at hSw); go_simp <;> with_reducible rfl)
        try simp only [Act.put, List.setIfInBounds_toArray, List.set_cons_zero, List.set_cons_succ]
        refine take_op (i := 44) (d := 96) (OP := Go.Op.pick (Go.Operand.tmp 90) (Go.Operand.const (Go.Value.bool true)) (Go.Operand.tmp 95)) (T := 4) (v := ?vax47) rfl rfl rfl rfl (by kernel_rfl) (by kernel_rfl) (by kernel_rfl) (fun _ _ _ h => h) (by rfl) ?hax47 hHeld ?rax47
        case hax47 => (intro w' hSw; (try dsimp only at hSw); go_simp <;> with_reducible rfl)
        try simp only [Act.put, List.setIfInBounds_toArray, List.set_cons_zero, List.set_cons_succ]
        refine wpAnyH_done (by kernel_rfl) ?_ _
        go_wp2
        go_meet
        exact ⟨rfl, t16⟩
      case rest =>
        obtain ⟨rfl, hc10⟩ := hcut
        have ownA1 := ownA.below hc10
        have ownC1 := ownC.below hc10
        have ownJ1 := ownJ.below hc10
        have rB1 := rBJ.below hc10
        have rD1 := rDJ.below hc10
        have ro1 := roJ.below hc10
        have rE1 := rE.below hc10
        have hbx1 := box_keep hbxJ hc10
        have hb1 : Below w.heap.size w wc := hbJ.trans (hc10.mono szwJ)
        have szc := hc10.size
        clear ownA ownC ownJ rBJ rDJ roJ rE rJ hbxJ hbJ hc10 rArg
        go_wp2_with fail
        refine (spoil_any oa ca w2.heap.size fb wc ownA1 (by omega) (by omega)).mono ?_
        rintro e s1 ⟨rfl, g1⟩
        have ownC2 := ownC1.apart g1 blkC blkA (by omega)
        have ownJ2 := ownJ1.apart g1 blkJ blkA (by omega)
        have rB2 := rB1.apart g1 blkB blkA (by omega)
        have rD2 := rD1.apart g1 blkD blkA (by omega)
        have ro2 := ro1.apart g1 bo2 blkA (by omega)
        have rE2 := rE1.apart g1 blkE blkA (by omega)
        have hbx2 := box_keep' hbx1 hb1.size g1 blkA (by omega)
        have hb2 := Below.spoiled hb1 (by omega) g1 blkA (by omega)
        have sz1 := g1.size
        clear ownA1 ownC1 ownJ1 rB1 rD1 ro1 rE1 hbx1 hb1 g1
        go_wp2_with fail
        refine (spoil_any oc cc w4.heap.size fn s1 ownC2 (by omega) (by omega)).mono ?_
        rintro e s2 ⟨rfl, g2⟩
        have ownJ3 := ownJ2.apart g2 blkJ blkC (by omega)
        have rB3 := rB2.apart g2 blkB blkC (by omega)
        have rD3 := rD2.apart g2 blkD blkC (by omega)
        have ro3 := ro2.apart g2 bo2 blkC (by omega)
        have rE3 := rE2.apart g2 blkE blkC (by omega)
        have hbx3 := box_keep' hbx2 hb2.size g2 blkC (by omega)
        have hb3 := Below.spoiled hb2 (by omega) g2 blkC (by omega)
        have sz2' := g2.size
        clear ownC2 ownJ2 rB2 rD2 ro2 rE2 hbx2 hb2 g2
        go_wp2_with fail
        refine (spoil_any oj cj wr.heap.size p s2 ownJ3 (by omega) (by omega)).mono ?_
        rintro e s3 ⟨rfl, g3⟩
        have rB4 := rB3.apart g3 blkB blkJ (by omega)
        have rD4 := rD3.apart g3 blkD blkJ (by omega)
        have ro4 := ro3.apart g3 bo2 blkJ (by omega)
        have rE4 := rE3.apart g3 blkE blkJ (by omega)
        have hbx4 := box_keep' hbx3 hb3.size g3 blkJ (by omega)
        have hb4 := Below.spoiled hb3 (by omega) g3 blkJ (by omega)
        have sz3' := g3.size
        have hp4 := hp.below hb4
        have rArg := rB.below hb4
        clear ownJ3 rB3 rD3 ro3 rE3 hbx3 hb3 g3
        go_wp2
        go_loopw [13, 14] (fun i k wx => ∃ (j m nq : Nat), j ≤ L.length ∧ i = .int .i64 j ∧ m = (L.take j).flatten.length ∧ k = .int .i64 m ∧ wx = s3.drewN nq)
          (fun i _ _ => L.length - (intOf i).toNat)
        case atStart => exact ⟨0, 0, 0, Nat.zero_le _, rfl, rfl, rfl, rfl⟩
        case round =>
          obtain ⟨j, m, nq, hj, rfl, hm, rfl, rfl⟩ := hrel
          have HM : Hid (m = (L.take j).flatten.length) := hm
          by_cases hlj : j < L.length
          · obtain ⟨l, hl⟩ : ∃ l, L[j]? = some l := ⟨_, List.getElem?_eq_getElem hlj⟩
            have hsn := flat_snoc L j l hl
            have hle := flat_take_le L (j + 1)
            have hml : m + l.length ≤ p.length := by
              rw [HPL.out]; rw [hsn, List.length_append] at hle; omega
            have HN : Hid (m + l.length = (L.take (j + 1)).flatten.length) := by
              show m + l.length = _
              rw [hsn, List.length_append, hm]
            have HSub : Hid ((p.drop m).take l.length = l) := by
              show _ = _
              rw [HPL.out, hm]
              exact flat_sub L j l hl
            obtain ⟨ab, aoff, aj, cj', rfl, hc, hr, hn⟩ := hp4.at hl
            have v1 : ∀ n, (convert 23 9 (.slice aj l.length cj')).run Try.prog (s3.drewN n) = .ok (.string (strOfNums l)) (s3.drewN n) := fun n => conv_rd (Rd.drewN hr n) rfl
            have hmi : (m : Int) + (l.length : Int) ≤ (ce : Int) := by omega
            clear hl hm hsn hle
            by_cases hce : ce = m
            · have hl0 : l = [] := List.eq_nil_of_length_eq_zero (by omega)
              subst hl0
              have v1' : ∀ n, (convert 23 9 (.slice aj 0 cj')).run Try.prog (s3.drewN n) = .ok (.string (strOfNums [])) (s3.drewN n) := v1
              have v2 : ∀ n, (convert 23 9 (.slice oe 0 0)).run Try.prog (s3.drewN n) = .ok (.string (strOfNums [])) (s3.drewN n) := fun n => conv_rd (Rd.nil _ _) rfl
              have hc' : s3.cell? ⟨ab, aoff + j, none⟩ = some (.slice aj 0 cj') := hc
              have HC : Hid (ce = m) := hce
              clear hc v1 hce
              have hmc : (m : Int) ≤ (ce : Int) := by omega
              subst ce
              go_wp2
              go_quiet (fail)
              go_wp2
              go_roundw
              case rel => exact ⟨j + 1, m, _, by omega, by go_num, by simpa using HN.out, rfl, rfl⟩
              case measure => simp [intOf]; omega
            · have v2 : ∀ n, (convert 23 9 (.slice (oe.map (fun x => x.add m)) l.length (ce - m))).run Try.prog (s3.drewN n) = .ok (.string (strOfNums l)) (s3.drewN n) := fun n => by
                have h1 := (Rd.sub rE4 m).take l.length
                rw [HSub.out] at h1
                exact conv_rd (Rd.drewN h1 n) rfl
              go_wp2
              go_quiet (fail)
              go_wp2
              go_roundw
              case rel => exact ⟨j + 1, m + l.length, _, by omega, by go_num, HN.out, by go_num, rfl⟩
              case measure => simp [intOf]; omega
          · have hsz' : (strOfNums lB).size = lB.length := strOfNums_size lB
            have hs21 : ((s3.drewN nq).drew.cell? ⟨w.heap.size, 0, none⟩ = some (.int .u64 N) ∧ (s3.drewN nq).drew.cell? ⟨w.heap.size, 1, none⟩ = some (.int .i64 S) ∧ (s3.drewN nq).drew.cell? ⟨w.heap.size, 2, none⟩ = some (.bool F) ∧ (s3.drewN nq).drew.cell? ⟨w.heap.size, 3, none⟩ = some (.slice ao lB.length capB)) ∧ Rd (s3.drewN nq).drew ob fb ∧ Rd (s3.drewN nq).drew od fn ∧ Rd (s3.drewN nq).drew oo2 (lB ++ [119]) ∧ Rd (s3.drewN nq).drew ao lB ∧ (convert 23 9 (.slice ob fb.length cb)).run Try.prog (s3.drewN nq).drew = .ok (.string (strOfNums fb)) (s3.drewN nq).drew ∧ (convert 23 9 (.slice od fn.length cd)).run Try.prog (s3.drewN nq).drew = .ok (.string (strOfNums fn)) (s3.drewN nq).drew ∧ (convert 23 9 (.slice oo2 (lB.length + 1) co2)).run Try.prog (s3.drewN nq).drew = .ok (.string (strOfNums lB ++ { data := #[119] })) (s3.drewN nq).drew ∧ (convert 23 9 (.slice ao lB.length capB)).run Try.prog (s3.drewN nq).drew = .ok (.string (strOfNums lB)) (s3.drewN nq).drew := ⟨hbx4, rB4, rD4, ro4, rArg, conv_rd (w := (s3.drewN nq).drew) rB4 rfl, conv_rd (w := (s3.drewN nq).drew) rD4 rfl, conv_cat (w := (s3.drewN nq).drew) ro4, conv_rd (w := (s3.drewN nq).drew) rArg rfl⟩
            have hadd : ∀ u : World, (binOp .add 9 (.string (strOfNums lB)) (.string { data := #[119] })).run Try.prog u = .ok (.string (strOfNums lB ++ { data := #[119] })) u := fun u => add_byte lB u (by omega)
            have hno : ¬ 9223372036854775807 < (strOfNums lB).size + 1 := by rw [hsz']; omega
            clear hm hp4 rE4 hsz'
            go_wp2
            refine wp_region_held_drew (S := (fun w' => (w'.cell? ⟨w.heap.size, 0, none⟩ = some (.int .u64 N) ∧ w'.cell? ⟨w.heap.size, 1, none⟩ = some (.int .i64 S) ∧ w'.cell? ⟨w.heap.size, 2, none⟩ = some (.bool F) ∧ w'.cell? ⟨w.heap.size, 3, none⟩ = some (.slice ao lB.length capB)) ∧ Rd w' ob fb ∧ Rd w' od fn ∧ Rd w' oo2 (lB ++ [119]) ∧ Rd w' ao lB ∧ (convert 23 9 (.slice ob fb.length cb)).run Try.prog w' = .ok (.string (strOfNums fb)) w' ∧ (convert 23 9 (.slice od fn.length cd)).run Try.prog w' = .ok (.string (strOfNums fn)) w' ∧ (convert 23 9 (.slice oo2 (lB.length + 1) co2)).run Try.prog w' = .ok (.string (strOfNums lB ++ { data := #[119] })) w' ∧ (convert 23 9 (.slice ao lB.length capB)).run Try.prog w' = .ok (.string (strOfNums lB)) w')) (by kernel_rfl) (by exact hs21) (fun hHeld => ?_)
            try dsimp only at hHeld
            refine take_op (i := 0) (d := 133) (OP := Go.Op.move (Go.Operand.tmp 7)) (T := 23) (v := ?vbx1) rfl rfl rfl rfl (by kernel_rfl) (by kernel_rfl) (by kernel_rfl) (fun _ _ _ h => h) (by rfl) ?hbx1 hHeld ?rbx1
            case hbx1 => (intro w' hSw; (try dsimp only at hSw); go_simp <;> with_reducible rfl)
            try simp only [Act.put, List.setIfInBounds_toArray, List.set_cons_zero, List.set_cons_succ]
            refine take_op (i := 1) (d := 134) (OP := Go.Op.convert 23 9 (Go.Operand.tmp 133)) (T := 9) (v := ?vbx2) rfl rfl rfl rfl (by kernel_rfl) (by kernel_rfl) (by kernel_rfl) (fun _ _ _ h => h) (by rfl) ?hbx2 hHeld ?rbx2
            case hbx2 => (intro w' hSw; (try dsimp only at hSw); go_simp <;> with_reducible rfl)
            try simp only [Act.put, List.setIfInBounds_toArray, List.set_cons_zero, List.set_cons_succ]
            refine take_op (i := 2) (d := 135) (OP := Go.Op.fieldAddr 25 (Go.Operand.tmp 2) 3) (T := 0) (v := ?vbx3) rfl rfl rfl rfl (by kernel_rfl) (by kernel_rfl) (by kernel_rfl) (fun _ _ _ h => h) (by rfl) ?hbx3 hHeld ?rbx3
            case hbx3 => (intro w' hSw; (try dsimp only at hSw); go_simp <;> with_reducible rfl)
            try simp only [Act.put, List.setIfInBounds_toArray, List.set_cons_zero, List.set_cons_succ]
            refine take_op (i := 3) (d := 136) (OP := Go.Op.load 23 (Go.Operand.tmp 135)) (T := 23) (v := ?vbx4) rfl rfl rfl rfl (by kernel_rfl) (by kernel_rfl) (by kernel_rfl) (fun _ _ _ h => h) (by rfl) ?hbx4 hHeld ?rbx4
            case hbx4 => (intro w' hSw; (try dsimp only at hSw); go_simp <;> with_reducible rfl)
            try simp only [Act.put, List.setIfInBounds_toArray, List.set_cons_zero, List.set_cons_succ]
            refine call_op (i := 4) (d := 137) (OP := Go.Op.call { callee := Go.Callee.value (Go.Operand.func 11), args := #[Go.Operand.tmp 136], argTypes := #[23] }) (T := 23) (f := 11) (args := #[.slice ao lB.length capB]) rfl rfl rfl rfl (by kernel_rfl) (by rfl) (by go_simp) ?_
            refine (refBytes_at ao capB lB fb _ HFB.out (by exact rArg) nB (by omega)).mono ?_
            rintro e wa ⟨o11, c11, rfl, own11, nil11, b11⟩
            have t11 : Below w.heap.size w wa := hb4.trans ((below_undrewN b11).mono (by omega))
            have s11 := t11.size
            have v11 := conv_rd (n := fb.length) (cap := c11) own11.rd rfl
            refine ⟨_, rfl, (show (wa.cell? ⟨w.heap.size, 0, none⟩ = some (.int .u64 N) ∧ wa.cell? ⟨w.heap.size, 1, none⟩ = some (.int .i64 S) ∧ wa.cell? ⟨w.heap.size, 2, none⟩ = some (.bool F) ∧ wa.cell? ⟨w.heap.size, 3, none⟩ = some (.slice ao lB.length capB)) ∧ Rd wa ob fb ∧ Rd wa od fn ∧ Rd wa oo2 (lB ++ [119]) ∧ Rd wa ao lB ∧ (convert 23 9 (.slice ob fb.length cb)).run Try.prog wa = .ok (.string (strOfNums fb)) wa ∧ (convert 23 9 (.slice od fn.length cd)).run Try.prog wa = .ok (.string (strOfNums fn)) wa ∧ (convert 23 9 (.slice oo2 (lB.length + 1) co2)).run Try.prog wa = .ok (.string (strOfNums lB ++ { data := #[119] })) wa ∧ (convert 23 9 (.slice ao lB.length capB)).run Try.prog wa = .ok (.string (strOfNums lB)) wa from keep21 hHeld b11), ?_⟩
            replace hHeld := (show (wa.cell? ⟨w.heap.size, 0, none⟩ = some (.int .u64 N) ∧ wa.cell? ⟨w.heap.size, 1, none⟩ = some (.int .i64 S) ∧ wa.cell? ⟨w.heap.size, 2, none⟩ = some (.bool F) ∧ wa.cell? ⟨w.heap.size, 3, none⟩ = some (.slice ao lB.length capB)) ∧ Rd wa ob fb ∧ Rd wa od fn ∧ Rd wa oo2 (lB ++ [119]) ∧ Rd wa ao lB ∧ (convert 23 9 (.slice ob fb.length cb)).run Try.prog wa = .ok (.string (strOfNums fb)) wa ∧ (convert 23 9 (.slice od fn.length cd)).run Try.prog wa = .ok (.string (strOfNums fn)) wa ∧ (convert 23 9 (.slice oo2 (lB.length + 1) co2)).run Try.prog wa = .ok (.string (strOfNums lB ++ { data := #[119] })) wa ∧ (convert 23 9 (.slice ao lB.length capB)).run Try.prog wa = .ok (.string (strOfNums lB)) wa from keep21 hHeld b11)
            try simp only [Act.put, List.setIfInBounds_toArray, List.set_cons_zero, List.set_cons_succ]
            refine alone_op (i := 5) (d := 138) (OP := Go.Op.convert 23 9 (Go.Operand.tmp 137)) (T := 9) (v := ?vbx6) rfl rfl rfl rfl (by kernel_rfl) (by rfl) ?hbx6 hHeld ?rbx6
            case hbx6 => (go_simp <;> with_reducible rfl)
            try simp only [Act.put, List.setIfInBounds_toArray, List.set_cons_zero, List.set_cons_succ]
            refine take_op (i := 6) (d := 139) (OP := Go.Op.binOp Go.BinOp.eql 9 (Go.Operand.tmp 134) (Go.Operand.tmp 138) 9) (T := 4) (v := ?vbx7) rfl rfl rfl rfl (by kernel_rfl) (by kernel_rfl) (by kernel_rfl) (fun _ _ _ h => h) (by rfl) ?hbx7 hHeld ?rbx7
            case hbx7 => (intro w' hSw; (try dsimp only at hSw); go_simp <;> with_reducible rfl)
            try simp only [Act.put, List.setIfInBounds_toArray, List.set_cons_zero, List.set_cons_succ]
            refine take_op (i := 7) (d := 140) (OP := Go.Op.move (Go.Operand.tmp 139)) (T := 4) (v := ?vbx8) rfl rfl rfl rfl (by kernel_rfl) (by kernel_rfl) (by kernel_rfl) (fun _ _ _ h => h) (by rfl) ?hbx8 hHeld ?rbx8
            case hbx8 => (intro w' hSw; (try dsimp only at hSw); go_simp <;> with_reducible rfl)
            try simp only [Act.put, List.setIfInBounds_toArray, List.set_cons_zero, List.set_cons_succ]
            refine take_op (i := 8) (d := 141) (OP := Go.Op.move (Go.Operand.tmp 9)) (T := 23) (v := ?vbx9) rfl rfl rfl rfl (by kernel_rfl) (by kernel_rfl) (by kernel_rfl) (fun _ _ _ h => h) (by rfl) ?hbx9 hHeld ?rbx9
            case hbx9 => (intro w' hSw; (try dsimp only at hSw); go_simp <;> with_reducible rfl)
            try simp only [Act.put, List.setIfInBounds_toArray, List.set_cons_zero, List.set_cons_succ]
            refine take_op (i := 9) (d := 142) (OP := Go.Op.convert 23 9 (Go.Operand.tmp 141)) (T := 9) (v := ?vbx10) rfl rfl rfl rfl (by kernel_rfl) (by kernel_rfl) (by kernel_rfl) (fun _ _ _ h => h) (by rfl) ?hbx10 hHeld ?rbx10
            case hbx10 => (intro w' hSw; (try dsimp only at hSw); go_simp <;> with_reducible rfl)
            try simp only [Act.put, List.setIfInBounds_toArray, List.set_cons_zero, List.set_cons_succ]
            refine take_op (i := 10) (d := 143) (OP := Go.Op.fieldAddr 25 (Go.Operand.tmp 2) 0) (T := 0) (v := ?vbx11) rfl rfl rfl rfl (by kernel_rfl) (by kernel_rfl) (by kernel_rfl) (fun _ _ _ h => h) (by rfl) ?hbx11 hHeld ?rbx11
            case hbx11 => (intro w' hSw; (try dsimp only at hSw); go_simp <;> with_reducible rfl)
            try simp only [Act.put, List.setIfInBounds_toArray, List.set_cons_zero, List.set_cons_succ]
            refine take_op (i := 11) (d := 144) (OP := Go.Op.load 22 (Go.Operand.tmp 143)) (T := 22) (v := ?vbx12) rfl rfl rfl rfl (by kernel_rfl) (by kernel_rfl) (by kernel_rfl) (fun _ _ _ h => h) (by rfl) ?hbx12 hHeld ?rbx12
            case hbx12 => (intro w' hSw; (try dsimp only at hSw); go_simp <;> with_reducible rfl)
            try simp only [Act.put, List.setIfInBounds_toArray, List.set_cons_zero, List.set_cons_succ]
            refine call_op (i := 12) (d := 145) (OP := Go.Op.call { callee := Go.Callee.value (Go.Operand.func 12), args := #[Go.Operand.tmp 144], argTypes := #[22] }) (T := 23) (f := 12) (args := #[.int .u64 N]) rfl rfl rfl rfl (by kernel_rfl) (by rfl) (by go_simp) ?_
            refine (refNumber_at N fn _ HFN.out hN).mono ?_
            rintro e wb ⟨o12, c12, rfl, own12, nil12, b12⟩
            have t12 := t11.trans (b12.mono s11)
            have s12 := t12.size
            have v12 := conv_rd (n := fn.length) (cap := c12) own12.rd rfl
            refine ⟨_, rfl, (show (wb.cell? ⟨w.heap.size, 0, none⟩ = some (.int .u64 N) ∧ wb.cell? ⟨w.heap.size, 1, none⟩ = some (.int .i64 S) ∧ wb.cell? ⟨w.heap.size, 2, none⟩ = some (.bool F) ∧ wb.cell? ⟨w.heap.size, 3, none⟩ = some (.slice ao lB.length capB)) ∧ Rd wb ob fb ∧ Rd wb od fn ∧ Rd wb oo2 (lB ++ [119]) ∧ Rd wb ao lB ∧ (convert 23 9 (.slice ob fb.length cb)).run Try.prog wb = .ok (.string (strOfNums fb)) wb ∧ (convert 23 9 (.slice od fn.length cd)).run Try.prog wb = .ok (.string (strOfNums fn)) wb ∧ (convert 23 9 (.slice oo2 (lB.length + 1) co2)).run Try.prog wb = .ok (.string (strOfNums lB ++ { data := #[119] })) wb ∧ (convert 23 9 (.slice ao lB.length capB)).run Try.prog wb = .ok (.string (strOfNums lB)) wb from keep21 hHeld b12), ?_⟩
            replace hHeld := (show (wb.cell? ⟨w.heap.size, 0, none⟩ = some (.int .u64 N) ∧ wb.cell? ⟨w.heap.size, 1, none⟩ = some (.int .i64 S) ∧ wb.cell? ⟨w.heap.size, 2, none⟩ = some (.bool F) ∧ wb.cell? ⟨w.heap.size, 3, none⟩ = some (.slice ao lB.length capB)) ∧ Rd wb ob fb ∧ Rd wb od fn ∧ Rd wb oo2 (lB ++ [119]) ∧ Rd wb ao lB ∧ (convert 23 9 (.slice ob fb.length cb)).run Try.prog wb = .ok (.string (strOfNums fb)) wb ∧ (convert 23 9 (.slice od fn.length cd)).run Try.prog wb = .ok (.string (strOfNums fn)) wb ∧ (convert 23 9 (.slice oo2 (lB.length + 1) co2)).run Try.prog wb = .ok (.string (strOfNums lB ++ { data := #[119] })) wb ∧ (convert 23 9 (.slice ao lB.length capB)).run Try.prog wb = .ok (.string (strOfNums lB)) wb from keep21 hHeld b12)
            try simp only [Act.put, List.setIfInBounds_toArray, List.set_cons_zero, List.set_cons_succ]
            refine alone_op (i := 13) (d := 146) (OP := Go.Op.convert 23 9 (Go.Operand.tmp 145)) (T := 9) (v := ?vbx14) rfl rfl rfl rfl (by kernel_rfl) (by rfl) ?hbx14 hHeld ?rbx14
            case hbx14 => (go_simp <;> with_reducible rfl)
            try simp only [Act.put, List.setIfInBounds_toArray, List.set_cons_zero, List.set_cons_succ]
            refine take_op (i := 14) (d := 147) (OP := Go.Op.binOp Go.BinOp.eql 9 (Go.Operand.tmp 142) (Go.Operand.tmp 146) 9) (T := 4) (v := ?vbx15) rfl rfl rfl rfl (by kernel_rfl) (by kernel_rfl) (by kernel_rfl) (fun _ _ _ h => h) (by rfl) ?hbx15 hHeld ?rbx15
            case hbx15 => (intro w' hSw; (try dsimp only at hSw); go_simp <;> with_reducible rfl)
            try simp only [Act.put, List.setIfInBounds_toArray, List.set_cons_zero, List.set_cons_succ]
            refine take_op (i := 15) (d := 148) (OP := Go.Op.pick (Go.Operand.tmp 140) (Go.Operand.tmp 147) (Go.Operand.const (Go.Value.bool false))) (T := 4) (v := ?vbx16) rfl rfl rfl rfl (by kernel_rfl) (by kernel_rfl) (by kernel_rfl) (fun _ _ _ h => h) (by rfl) ?hbx16 hHeld ?rbx16
            case hbx16 => (intro w' hSw; (try dsimp only at hSw); go_simp <;> with_reducible rfl)
            try simp only [Act.put, List.setIfInBounds_toArray, List.set_cons_zero, List.set_cons_succ]
            refine take_op (i := 16) (d := 149) (OP := Go.Op.move (Go.Operand.tmp 148)) (T := 4) (v := ?vbx17) rfl rfl rfl rfl (by kernel_rfl) (by kernel_rfl) (by kernel_rfl) (fun _ _ _ h => h) (by rfl) ?hbx17 hHeld ?rbx17
            case hbx17 => (intro w' hSw; (try dsimp only at hSw); go_simp <;> with_reducible rfl)
            try simp only [Act.put, List.setIfInBounds_toArray, List.set_cons_zero, List.set_cons_succ]
            refine take_op (i := 17) (d := 150) (OP := Go.Op.move (Go.Operand.tmp 5)) (T := 23) (v := ?vbx18) rfl rfl rfl rfl (by kernel_rfl) (by kernel_rfl) (by kernel_rfl) (fun _ _ _ h => h) (by rfl) ?hbx18 hHeld ?rbx18
            case hbx18 => (intro w' hSw; (try dsimp only at hSw); go_simp <;> with_reducible rfl)
            try simp only [Act.put, List.setIfInBounds_toArray, List.set_cons_zero, List.set_cons_succ]
            refine take_op (i := 18) (d := 151) (OP := Go.Op.convert 23 9 (Go.Operand.tmp 150)) (T := 9) (v := ?vbx19) rfl rfl rfl rfl (by kernel_rfl) (by kernel_rfl) (by kernel_rfl) (fun _ _ _ h => h) (by rfl) ?hbx19 hHeld ?rbx19
            case hbx19 => (intro w' hSw; (try dsimp only at hSw); go_simp <;> with_reducible rfl)
            try simp only [Act.put, List.setIfInBounds_toArray, List.set_cons_zero, List.set_cons_succ]
            refine take_op (i := 19) (d := 152) (OP := Go.Op.fieldAddr 25 (Go.Operand.tmp 2) 3) (T := 0) (v := ?vbx20) rfl rfl rfl rfl (by kernel_rfl) (by kernel_rfl) (by kernel_rfl) (fun _ _ _ h => h) (by rfl) ?hbx20 hHeld ?rbx20
            case hbx20 => (intro w' hSw; (try dsimp only at hSw); go_simp <;> with_reducible rfl)
            try simp only [Act.put, List.setIfInBounds_toArray, List.set_cons_zero, List.set_cons_succ]
            refine take_op (i := 20) (d := 153) (OP := Go.Op.load 23 (Go.Operand.tmp 152)) (T := 23) (v := ?vbx21) rfl rfl rfl rfl (by kernel_rfl) (by kernel_rfl) (by kernel_rfl) (fun _ _ _ h => h) (by rfl) ?hbx21 hHeld ?rbx21
            case hbx21 => (intro w' hSw; (try dsimp only at hSw); go_simp <;> with_reducible rfl)
            try simp only [Act.put, List.setIfInBounds_toArray, List.set_cons_zero, List.set_cons_succ]
            refine take_op (i := 21) (d := 154) (OP := Go.Op.convert 23 9 (Go.Operand.tmp 153)) (T := 9) (v := ?vbx22) rfl rfl rfl rfl (by kernel_rfl) (by kernel_rfl) (by kernel_rfl) (fun _ _ _ h => h) (by rfl) ?hbx22 hHeld ?rbx22
            case hbx22 => (intro w' hSw; (try dsimp only at hSw); go_simp <;> with_reducible rfl)
            try simp only [Act.put, List.setIfInBounds_toArray, List.set_cons_zero, List.set_cons_succ]
            refine take_op (i := 22) (d := 155) (OP := Go.Op.binOp Go.BinOp.add 9 (Go.Operand.tmp 154) (Go.Operand.const (Go.Value.string { data := #[119] })) 9) (T := 9) (v := ?vbx23) rfl rfl rfl rfl (by kernel_rfl) (by kernel_rfl) (by kernel_rfl) (fun _ _ _ h => h) (by rfl) ?hbx23 hHeld ?rbx23
            case hbx23 => (intro w' hSw; (try dsimp only at hSw); go_simp <;> with_reducible rfl)
            try simp only [Act.put, List.setIfInBounds_toArray, List.set_cons_zero, List.set_cons_succ]
            refine take_op (i := 23) (d := 156) (OP := Go.Op.binOp Go.BinOp.eql 9 (Go.Operand.tmp 151) (Go.Operand.tmp 155) 9) (T := 4) (v := ?vbx24) rfl rfl rfl rfl (by kernel_rfl) (by kernel_rfl) (by kernel_rfl) (fun _ _ _ h => h) (by rfl) ?hbx24 hHeld ?rbx24
            case hbx24 => (intro w' hSw; (try dsimp only at hSw); go_simp <;> with_reducible rfl)
            try simp only [Act.put, List.setIfInBounds_toArray, List.set_cons_zero, List.set_cons_succ]
            refine take_op (i := 24) (d := 157) (OP := Go.Op.pick (Go.Operand.tmp 149) (Go.Operand.tmp 156) (Go.Operand.const (Go.Value.bool false))) (T := 4) (v := ?vbx25) rfl rfl rfl rfl (by kernel_rfl) (by kernel_rfl) (by kernel_rfl) (fun _ _ _ h => h) (by rfl) ?hbx25 hHeld ?rbx25
            case hbx25 => (intro w' hSw; (try dsimp only at hSw); go_simp <;> with_reducible rfl)
            try simp only [Act.put, List.setIfInBounds_toArray, List.set_cons_zero, List.set_cons_succ]
            refine take_op (i := 25) (d := 158) (OP := Go.Op.move (Go.Operand.tmp 157)) (T := 4) (v := ?vbx26) rfl rfl rfl rfl (by kernel_rfl) (by kernel_rfl) (by kernel_rfl) (fun _ _ _ h => h) (by rfl) ?hbx26 hHeld ?rbx26
            case hbx26 => (intro w' hSw; (try dsimp only at hSw); go_simp <;> with_reducible rfl)
            try simp only [Act.put, List.setIfInBounds_toArray, List.set_cons_zero, List.set_cons_succ]
            refine call_op (i := 26) (d := 159) (OP := Go.Op.call { callee := Go.Callee.value (Go.Operand.func 18), args := #[], argTypes := #[] }) (T := 4) (f := 18) (args := #[]) rfl rfl rfl rfl (by kernel_rfl) (by rfl) (by go_simp) ?_
            refine (known_any _).mono ?_
            rintro e wk ⟨rfl, bK⟩
            have tK := t12.trans (bK.mono s12)
            refine ⟨_, rfl, (show (wk.cell? ⟨w.heap.size, 0, none⟩ = some (.int .u64 N) ∧ wk.cell? ⟨w.heap.size, 1, none⟩ = some (.int .i64 S) ∧ wk.cell? ⟨w.heap.size, 2, none⟩ = some (.bool F) ∧ wk.cell? ⟨w.heap.size, 3, none⟩ = some (.slice ao lB.length capB)) ∧ Rd wk ob fb ∧ Rd wk od fn ∧ Rd wk oo2 (lB ++ [119]) ∧ Rd wk ao lB ∧ (convert 23 9 (.slice ob fb.length cb)).run Try.prog wk = .ok (.string (strOfNums fb)) wk ∧ (convert 23 9 (.slice od fn.length cd)).run Try.prog wk = .ok (.string (strOfNums fn)) wk ∧ (convert 23 9 (.slice oo2 (lB.length + 1) co2)).run Try.prog wk = .ok (.string (strOfNums lB ++ { data := #[119] })) wk ∧ (convert 23 9 (.slice ao lB.length capB)).run Try.prog wk = .ok (.string (strOfNums lB)) wk from keep21 hHeld bK), ?_⟩
            replace hHeld := (show (wk.cell? ⟨w.heap.size, 0, none⟩ = some (.int .u64 N) ∧ wk.cell? ⟨w.heap.size, 1, none⟩ = some (.int .i64 S) ∧ wk.cell? ⟨w.heap.size, 2, none⟩ = some (.bool F) ∧ wk.cell? ⟨w.heap.size, 3, none⟩ = some (.slice ao lB.length capB)) ∧ Rd wk ob fb ∧ Rd wk od fn ∧ Rd wk oo2 (lB ++ [119]) ∧ Rd wk ao lB ∧ (convert 23 9 (.slice ob fb.length cb)).run Try.prog wk = .ok (.string (strOfNums fb)) wk ∧ (convert 23 9 (.slice od fn.length cd)).run Try.prog wk = .ok (.string (strOfNums fn)) wk ∧ (convert 23 9 (.slice oo2 (lB.length + 1) co2)).run Try.prog wk = .ok (.string (strOfNums lB ++ { data := #[119] })) wk ∧ (convert 23 9 (.slice ao lB.length capB)).run Try.prog wk = .ok (.string (strOfNums lB)) wk from keep21 hHeld bK)
            try simp only [Act.put, List.setIfInBounds_toArray, List.set_cons_zero, List.set_cons_succ]
            refine take_op (i := 27) (d := 160) (OP := Go.Op.pick (Go.Operand.tmp 158) (Go.Operand.tmp 159) (Go.Operand.const (Go.Value.bool false))) (T := 4) (v := ?vbx28) rfl rfl rfl rfl (by kernel_rfl) (by kernel_rfl) (by kernel_rfl) (fun _ _ _ h => h) (by rfl) ?hbx28 hHeld ?rbx28
            case hbx28 => (intro w' hSw; (try dsimp only at hSw); go_simp <;> with_reducible rfl)
            try simp only [Act.put, List.setIfInBounds_toArray, List.set_cons_zero, List.set_cons_succ]
            refine take_op (i := 28) (d := 4) (OP := Go.Op.assign (Go.Operand.tmp 160)) (T := 4) (v := ?vbx29) rfl rfl rfl rfl (by kernel_rfl) (by kernel_rfl) (by kernel_rfl) (fun _ _ _ h => h) (by rfl) ?hbx29 hHeld ?rbx29
            case hbx29 => (intro w' hSw; (try dsimp only at hSw); go_simp <;> with_reducible rfl)
            try simp only [Act.put, List.setIfInBounds_toArray, List.set_cons_zero, List.set_cons_succ]
            refine wpAnyH_done (by kernel_rfl) ?_ _
            go_wp2
            go_ret
            exact ⟨rfl, tK⟩
end Go.Proofs.Ytjbnhfcacocgeaa
