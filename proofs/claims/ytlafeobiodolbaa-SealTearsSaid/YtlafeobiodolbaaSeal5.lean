/- Two arrays compared; the contract of seal's Get. -/
import Derived.Test.YtlafeobiodolbaaSeal4
namespace Go.Proofs.Ytlafeobiodolbaa
open Go.RowKit

theorem eqItems_bytes (d : Nat) (l l' : List UInt8) (w : World) : ∀ is : List Nat, (∀ i ∈ is, i < l.length ∧ i < l'.length) →
    (Op.eqItems (d + 1) 5 1 (cells l).toArray (cells l').toArray is).run Try.prog w = .ok (decide (∀ i ∈ is, l[i]? = l'[i]?)) w
  | [], _ => by simp [Op.eqItems]
  | i :: is, h => by
    have h1 := h i (by simp)
    have p1 : (part 5 (cells l).toArray (i * 1)).run Try.prog w = .ok (.int .u8 (l[i]'h1.1).toNat) w := run_part_plain w (by kernel_rfl) (by simpa using cells_get h1.1)
    have p2 : (part 5 (cells l').toArray (i * 1)).run Try.prog w = .ok (.int .u8 (l'[i]'h1.2).toNat) w := run_part_plain w (by kernel_rfl) (by simpa using cells_get h1.2)
    have p3 := run_equalIn_int (P := Try.prog) w d 5 .u8 .u8 ((l[i]'h1.1).toNat : Int) ((l'[i]'h1.2).toNat : Int) Try.underlying5
    have ih := eqItems_bytes d l l' w is (fun j hj => h j (by simp [hj]))
    simp only [Op.eqItems, Sem.run_bind, p1, p2, p3, Result.andThen_ok]
    by_cases he : l[i]'h1.1 = l'[i]'h1.2
    · simp [he, ih, h1.1, h1.2]
    · have hn : ¬ ((l[i]'h1.1).toNat : Int) = ((l'[i]'h1.2).toNat : Int) := fun hh => he (UInt8.toNat_inj.1 (by omega))
      simp [hn, h1.1, h1.2, he]

theorem run_eqsec (l l' : List UInt8) (hl : l.length = 512) (hl' : l'.length = 512) (w : World) : (Op.equalIn 10000 41 (.agg (cells l).toArray) (.agg (cells l').toArray)).run Try.prog w = .ok (decide (l = l')) w := by
  obtain ⟨i, hi, _⟩ := info_parts bytesT.info
  have h := run_equalIn_array (P := Try.prog) w 9999 (t := 41) (cells l).toArray (cells l').toArray Try.underlying41 hi
  rw [show Try.prog.cellsOf 5 = 1 from by kernel_rfl] at h
  have h2 := eqItems_bytes 9998 l l' w (List.range 512) (fun i hi => by simp at hi; omega)
  have hiff : (∀ i ∈ List.range 512, l[i]? = l'[i]?) ↔ l = l' := by
    constructor
    · intro h
      apply List.ext_getElem?
      intro i
      by_cases hi : i < 512
      · exact h i (by simp [hi])
      · rw [List.getElem?_eq_none (by omega), List.getElem?_eq_none (by omega)]
    · intro h i _; rw [h]
  refine (h.trans h2).trans ?_
  simp only [hiff]

/-- What is got: what is claimed, or nothing. -/
def gE (l : List UInt8) : Int := if okL l then cE l else 0
def gN (l : List UInt8) : Int := if okL l then cN l else 0
def gK (l : List UInt8) : Int := if okL l then cK l else 0
def gB (l : List UInt8) : List UInt8 := if okL l then cB l else []

theorem Rd.range {w : World} {A : Option Addr} {l : List UInt8} {n : Nat} (h : Rd w A n l) (hn : 0 < n) : ∃ b o, A = some ⟨b, o, none⟩ ∧ w.rangeAt b o (cells l) := by
  obtain ⟨b, o, e, _, hc⟩ := h.2 hn
  refine ⟨b, o, e, fun j v hj => ?_⟩
  have hj' : j < l.length := by have := (List.getElem?_eq_some_iff.1 hj).1; simpa using this
  rw [hc j hj', ← hj, cells_get hj']

theorem sec_info (l : List UInt8) (h : l.length = 512) : (Try.prog.info? 41).map (·.size) = some (cells l).length := by rw [cells_length, h]; kernel_rfl
theorem SPut_sec (e n k : Int) (A : Option Addr) (m c : Nat) (l body : List UInt8) (w : World) (hr : Rd w A m body) (hB : sectorOf e n k body = l) :
    Calls Try.prog 21 #[.agg #[.int .i64 e, .int .i64 n, .int .i64 k, .slice A m c]] w fun ed w' => ed = .returned (.agg (cells l).toArray) ∧ Below w.heap.size w w' := hB ▸ sealed_any e n k A m c body w hr

theorem Get_wrong (A : Option Addr) (n c : Nat) (w : World) (hn : n ≠ 512) :
    Calls Try.prog 12 #[.slice A n c] w fun ed w' => ed = .returned (.tuple #[.agg #[.int .i64 0, .int .i64 0, .int .i64 0, .slice none 0 0], .bool false]) ∧ Below w.heap.size w w' := by
  obtain ⟨w1, hw1⟩ : ∃ w1, w1 = w.alloc (.cells #[.int .i64 0, .int .i64 0, .int .i64 0, .slice none 0 0] 24) := ⟨_, rfl⟩
  have hB1 : Below w.heap.size w w1 := by rw [hw1]; exact (Below.refl _ _).alloc (Nat.le_refl _) _
  have hS1 : SealAt w1 w.heap.size 0 0 0 none 0 0 := by rw [hw1]; exact SealAt.new w
  go_enter Try.func12, Try.ntmps12
  go_wp2_with (first
    | (rw [← hw1]; clear hw1)
    | (refine wpList_stseal rfl (.tmp 2) (.tmp 9) rfl rfl rfl hS1 ?_; intro w2 hS2 hB2 _)
    | (refine bodyPost_ret (res_seal_tmp rfl rfl hS2) rfl ?_; exact ⟨rfl, hB1.trans hB2⟩))

theorem run_arrayAt_sec (a : Option Addr) (c : Nat) (w : World) : (Instr.arrayAt 41 (.slice a 512 c)).run Try.prog w = .ok (.pointer a) w := by
  simp [Instr.arrayAt, Sem.run_bind, run_underlying Try.underlying41]

theorem Get_right (A : Option Addr) (c : Nat) (l : List UInt8) (w : World) (hr : Rd w A 512 l) :
    Calls Try.prog 12 #[.slice A 512 c] w fun ed w' => ∃ A' m' c', ed = .returned (.tuple #[.agg #[.int .i64 (gE l), .int .i64 (gN l), .int .i64 (gK l), .slice A' m' c'], .bool (decide (okL l))]) ∧ Rd w' A' m' (gB l) ∧ m' ≤ 472 ∧ Below w.heap.size w w' := by
  have hl := hr.1
  have hz := zsec
  have har := run_arrayAt_sec
  obtain ⟨b, o, rfl, hrange⟩ := hr.range (by omega)
  obtain ⟨w1, hw1⟩ : ∃ w1, w1 = w.alloc (.cells #[.int .i64 0, .int .i64 0, .int .i64 0, .slice none 0 0] 24) := ⟨_, rfl⟩
  have hB1 : Below w.heap.size w w1 := by rw [hw1]; exact (Below.refl _ _).alloc (Nat.le_refl _) _
  have hS1 : SealAt w1 w.heap.size 0 0 0 none 0 0 := by rw [hw1]; exact SealAt.new w
  have hr1 : w1.rangeAt b o (cells l) := by rw [hw1]; exact World.rangeAt_alloc hrange _
  go_enter Try.func12, Try.ntmps12
  go_wp2_with (first
    | (rw [← hw1]; clear hw1)
    | (refine wpList_load_mid rfl 41 (.tmp 11) rfl b o rfl (cells l) _ hr1 Try.underlying41 rfl (sec_info l hl) ?_)
    | (refine wpList_stsec rfl (.tmp 4) (.tmp 12) rfl w1.heap.size _ _ rfl rfl (Sec.new w1 _ (zeros_length _)) hl ?_; intro w2 hS2 hB2))
  have l2 := hS2.lt
  have s1 := hB1.size
  have sB2 : Below w1.heap.size w1 w2 := ((Below.refl _ _).alloc (Nat.le_refl _) _).trans hB2
  refine (claim_any w1.heap.size l w2 hS2).mono ?_
  rintro ed w3 ⟨A3, c3, rfl, hr3, hc3, hB3, hA3⟩
  have s3 := hB3.size
  have hS3 := hS2.below hB3 l2
  have hz1 := (hS1.below sB2 hS1.lt).below hB3 (Nat.lt_of_lt_of_le hS1.lt sB2.size)
  go_wp2_with (refine wpList_stseal rfl (.tmp 5) (.tmp 13) rfl rfl rfl (SealAt.new w3) ?_; intro w4 hS4 hB4 _)
  replace hB4 : Below w3.heap.size w3 w4 := ((Below.refl _ _).alloc (Nat.le_refl _) _).trans hB4
  have hz4 := hz1.below hB4 hz1.lt
  have hC4 := hS3.below hB4 hS3.lt
  have hr4 := hr3.below (Nat.le_refl _) hB4
  have hall : Below w.heap.size w w4 := ((hB1.trans (sB2.mono s1)).trans (hB3.mono (by omega))).trans (hB4.mono (by omega))
  clear hz1 hS3 hr3 hS1 hS2 hB2 hr1 hrange hr hz har hB1
  have hrg : w4.rangeAt w1.heap.size 0 (cells l) := by
    obtain ⟨b', o', e, h⟩ := hC4.rd_all.range (by omega)
    injection e with e
    injection e with e1 e2
    subst e1; subst e2
    exact h
  have hrg5 : ∀ w5, Below w4.heap.size w4.drew w5 → w5.rangeAt w1.heap.size 0 (cells l) := fun w5 hb => by
    obtain ⟨b', o', e, h⟩ := (hC4.drew.below hb hC4.lt).rd_all.range (by omega)
    injection e with e
    injection e with e1 e2
    subst e1; subst e2
    exact h
  have k0 := hS4.h0
  have k1 := hS4.h1
  have k2 := hS4.h2
  have k3 := hS4.h3
  have hu := Try.underlying41
  have hi := sec_info l hl
  by_cases hok : okL l
  · have hq := fun W => run_eqsec l (sectorOf (cE l) (cN l) (cK l) (cB l)) hl (sectorOf_length _ _ _ _) W
    rw [decide_eq_true (show l = sectorOf (cE l) (cN l) (cK l) (cB l) from hok)] at hq
    have e0 : gE l = cE l ∧ gN l = cN l ∧ gK l = cK l ∧ gB l = cB l ∧ decide (okL l) = true := by simp [gE, gN, gK, gB, hok]
    have E0 := Lib.hid e0
    clear e0 hok
    go_region_held3 (fun w' => w'.rangeAt w1.heap.size 0 (cells l) ∧ w'.cell? ⟨w3.heap.size, 0, none⟩ = some (.int .i64 (cE l)) ∧ w'.cell? ⟨w3.heap.size, 1, none⟩ = some (.int .i64 (cN l)) ∧ w'.cell? ⟨w3.heap.size, 2, none⟩ = some (.int .i64 (cK l)) ∧ w'.cell? ⟨w3.heap.size, 3, none⟩ = some (.slice A3 (min (cL l) 472).toNat c3))
      (first | exact ⟨hrg, k0, k1, k2, k3⟩ | exact ⟨q, q0, q1, q2, q3⟩)
      (first | (go_at_call 21; refine (sealed_any _ _ _ _ _ _ _ _ hr4.drew).mono ?_; rintro ed w5 ⟨rfl, hB5⟩; have q : w5.rangeAt w1.heap.size 0 (cells l) := hrg5 w5 hB5; have q0 := (hS4.drew.below hB5 hS4.lt).h0; have q1 := (hS4.drew.below hB5 hS4.lt).h1; have q2 := (hS4.drew.below hB5 hS4.lt).h2; have q3 := (hS4.drew.below hB5 hS4.lt).h3))
    replace hB5 : Below w4.heap.size w4 w5 := ((Below.refl _ _).drew).trans hB5
    have hz5 := hz4.below hB5 hz4.lt
    have hS5 := hS4.below hB5 hS4.lt
    have hr5 := hr4.below (Nat.le_refl _) hB5
    have hall5 := hall.trans (hB5.mono (by have := hall.size; omega))
    clear q q0 q1 q2 q3 k0 k1 k2 k3 hq hrg hrg5 hu hi hS4 hC4 hz4
    have hr5' : Rd w5 A3 (min (cL l) 472).toNat (gB l) := by rw [E0.out.2.2.2.1]; exact hr5
    go_wp2_with (first
      | (refine wpList_ldseal rfl (.tmp 5) rfl rfl hS5 ?_)
      | (refine wpList_stseal rfl (.tmp 2) (.tmp 19) rfl rfl rfl hz5 ?_; intro w6 hS6 hB6 hE6)
      | (refine bodyPost_ret (res_seal_tmp rfl rfl hS6) rfl ?_; refine ⟨A3, _, c3, ?_, hr5'.block hB6.size fun b o e => hE6 b (by have := hA3 b o e; have := sB2.size; omega), by omega, hall5.trans hB6⟩; rw [E0.out.1, E0.out.2.1, E0.out.2.2.1, E0.out.2.2.2.2]; rfl))
  · have hq := fun W => run_eqsec l (sectorOf (cE l) (cN l) (cK l) (cB l)) hl (sectorOf_length _ _ _ _) W
    rw [decide_eq_false (show ¬ l = sectorOf (cE l) (cN l) (cK l) (cB l) from hok)] at hq
    have e0 : gE l = 0 ∧ gN l = 0 ∧ gK l = 0 ∧ gB l = [] ∧ decide (okL l) = false := by simp [gE, gN, gK, gB, hok]
    have E0 := Lib.hid e0
    clear e0 hok
    go_region_held3 (fun w' => w'.rangeAt w1.heap.size 0 (cells l) ∧ w'.cell? ⟨w3.heap.size, 0, none⟩ = some (.int .i64 (cE l)) ∧ w'.cell? ⟨w3.heap.size, 1, none⟩ = some (.int .i64 (cN l)) ∧ w'.cell? ⟨w3.heap.size, 2, none⟩ = some (.int .i64 (cK l)) ∧ w'.cell? ⟨w3.heap.size, 3, none⟩ = some (.slice A3 (min (cL l) 472).toNat c3))
      (first | exact ⟨hrg, k0, k1, k2, k3⟩ | exact ⟨q, q0, q1, q2, q3⟩)
      (first | (go_at_call 21; refine (sealed_any _ _ _ _ _ _ _ _ hr4.drew).mono ?_; rintro ed w5 ⟨rfl, hB5⟩; have q : w5.rangeAt w1.heap.size 0 (cells l) := hrg5 w5 hB5; have q0 := (hS4.drew.below hB5 hS4.lt).h0; have q1 := (hS4.drew.below hB5 hS4.lt).h1; have q2 := (hS4.drew.below hB5 hS4.lt).h2; have q3 := (hS4.drew.below hB5 hS4.lt).h3))
    replace hB5 : Below w4.heap.size w4 w5 := ((Below.refl _ _).drew).trans hB5
    have hz5 := hz4.below hB5 hz4.lt
    have hS5 := hS4.below hB5 hS4.lt
    have hr5 := hr4.below (Nat.le_refl _) hB5
    have hall5 := hall.trans (hB5.mono (by have := hall.size; omega))
    clear q q0 q1 q2 q3 k0 k1 k2 k3 hq hrg hrg5 hu hi hS4 hC4 hz4
    go_wp2_with (first
      | (refine wpList_stseal rfl (.tmp 2) (.tmp 18) rfl rfl rfl hz5 ?_; intro w6 hS6 hB6 hE6)
      | (refine bodyPost_ret (res_seal_tmp rfl rfl hS6) rfl ?_; refine ⟨none, 0, 0, ?_, ?_, by omega, hall5.trans hB6⟩; · rw [E0.out.1, E0.out.2.1, E0.out.2.2.1, E0.out.2.2.2.2]; rfl
         · rw [E0.out.2.2.2.1]; exact Rd.nil _ _))
end Go.Proofs.Ytlafeobiodolbaa
